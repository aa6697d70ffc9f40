/- super.Load: the newest superblock of a disk. -/
import Derived.Test.YtbdomhookjmmgaaSuD
import Derived.Test.YtbdomhookjmmgaaRg
import Derived.Test.YtbdomhookjmmgaaDkG
namespace Go.Proofs.Ytbdomhookjmmgaa
open Go.RowKit Fr Su
set_option linter.unusedVariables false
namespace Su
/-- The newer one: what was the newest, or what a sector holds. -/
def pick (nw : S) (k : Nat) (l : List Nat) : S := if isSu l = true ∧ (sOf l).g % 2 = ((k / 2 : Nat) : Int) ∧ nw.g < (sOf l).g then sOf l else nw
def loadF (st : Dk.St) : Nat → S → S × Int
  | 0, nw => if nw.g = 0 then (none_, 51) else (nw, 0)
  | f + 1, nw => if st.ready ((3 - f : Nat) : Int) = 0 then loadF st f (pick nw (3 - f) (st.readB ((3 - f : Nat) : Int))) else (none_, st.ready ((3 - f : Nat) : Int))
def loadS (st : Dk.St) : S × Int := loadF st 4 none_
theorem loadF_step (st : Dk.St) (k : Nat) (nw : S) (hk : k < 4) : loadF st (4 - k) nw = if st.ready (k : Int) = 0 then loadF st (4 - (k + 1)) (pick nw k (st.readB (k : Int))) else (none_, st.ready (k : Int)) := by
  rcases (show k = 0 ∨ k = 1 ∨ k = 2 ∨ k = 3 by omega) with rfl | rfl | rfl | rfl <;> rfl
/-- The superblock's cells. -/
def cells (s : S) (A : Option Addr) (c : Nat) : List Value := [.int .i64 s.g, .int .i64 s.e, .int .i64 s.i, .int .i64 s.m, .slice A s.ps.length c]
end Su
def zero5 : List Value := [.int .i64 0, .int .i64 0, .int .i64 0, .int .i64 0, .slice none 0 0]
/-- What holds at Load's label. -/
structure LoadW (w : World) (st : Dk.St) (k : Nat) (nw : S) (A : Option Addr) (c : Nat) (v : World) : Prop where
  k4 : k ≤ 4
  base : Below w.heap.size w v
  res : Holds v w.heap.size zero5
  cur : Holds v (w.heap.size + 1) (Su.cells nw A c)
  rd : RdC 2 v A nw.ps.length (pv nw.ps)
  far : ∀ b o, A = some ⟨b, o, none⟩ → w.heap.size + 2 ≤ b
  rest : loadF st (4 - k) nw = loadS st
def LoadJ (w : World) (d : Nat) (st : Dk.St) (x : Act) (v : World) : Prop :=
  x.tmps.size = 53 ∧ x.defers = [] ∧ x.tmps.getD 0 undef = .pointer (some ⟨d, 0, none⟩) ∧ x.tmps.getD 2 undef = .pointer (some ⟨w.heap.size, 0, none⟩) ∧ x.tmps.getD 4 undef = .pointer (some ⟨w.heap.size + 1, 0, none⟩) ∧
    ∃ (k : Nat) (nw : S) (A : Option Addr) (c : Nat), x.tmps.getD 5 undef = .int .i64 (k : Int) ∧ LoadW w st k nw A c v
def LoadM (x : Act) (_ : World) : Nat := 4 - (intOf (x.tmps.getD 5 undef)).toNat
set_option maxRecDepth 100000 in
set_option maxHeartbeats 8000000 in
theorem load_any (w : World) (d : Nat) (lab : Nat → Tag) (st : Dk.St) (h : IsDisk w d lab st) : Calls Try.prog 22 #[.pointer (some ⟨d, 0, none⟩)] w (GivesSu w (loadS st).1 (loadS st).2) := by
  have HD := Lib.hid h
  obtain ⟨TT, hTT⟩ : ∃ TT : S, TT = (loadS st).1 := ⟨_, rfl⟩
  obtain ⟨rr, hrr⟩ : ∃ rr : Int, rr = (loadS st).2 := ⟨_, rfl⟩
  rw [← hTT, ← hrr]
  have HTT := Lib.hid (show loadS st = (TT, rr) by rw [hTT, hrr])
  clear h hTT hrr
  go_enter Try.func22, Try.ntmps22
  go_wp2_with fail
  refine wp_scope1 (LoadJ w d st) LoadM rfl ?_ ?_
  · intro hp0
    go_wp2_with fail
    go_step3
    rename_i hk
    refine hk _ _ (hp0 _ _ ?_)
    have hB0 : Below w.heap.size w ((w.alloc (.cells #[.int .i64 0, .int .i64 0, .int .i64 0, .int .i64 0, .slice none 0 0] 26)).alloc (.cells #[.int .i64 0, .int .i64 0, .int .i64 0, .int .i64 0, .slice none 0 0] 26)) := by repeat (first | exact Below.refl _ _ | refine Below.alloc ?_ (by simp <;> omega) _)
    have hc0 : Holds ((w.alloc (.cells #[.int .i64 0, .int .i64 0, .int .i64 0, .int .i64 0, .slice none 0 0] 26)).alloc (.cells #[.int .i64 0, .int .i64 0, .int .i64 0, .int .i64 0, .slice none 0 0] 26)) (w.heap.size + 1) zero5 := by
      have := Holds.new (w.alloc (.cells #[.int .i64 0, .int .i64 0, .int .i64 0, .int .i64 0, .slice none 0 0] 26)) #[.int .i64 0, .int .i64 0, .int .i64 0, .int .i64 0, .slice none 0 0] 26
      simpa [zero5] using this
    refine ⟨rfl, rfl, rfl, rfl, ?_, 0, none_, none, 0, rfl, ⟨by omega, hB0, (Holds.new w #[.int .i64 0, .int .i64 0, .int .i64 0, .int .i64 0, .slice none 0 0] 26).alloc _, hc0, RdC.nil _ _ _, fun b o e => (by cases e), rfl⟩⟩
    simp
  · rintro x v ⟨hs, hd, h0, h2, h4, k, nw, A, c, h5, hW⟩
    obtain ⟨u, rfl, hu⟩ := act53 x hs hd
    clear hu hs hd
    change u 0 = _ at h0
    change u 2 = _ at h2
    change u 4 = _ at h4
    change u 5 = _ at h5
    rw [h0, h2, h4, h5]
    clear h0 h2 h4 h5
    have HW := Lib.hid hW
    have g0 := hW.cur.at_ 0 rfl
    have hrest := hW.rest
    have hk := hW.k4
    rw [HTT.out] at hrest
    clear hW
    by_cases hk4 : k = 4
    · subst hk4
      have e4 : loadF st (4 - 4) nw = if nw.g = 0 then (none_, 51) else (nw, 0) := rfl
      rw [e4] at hrest
      clear e4
      by_cases hg : nw.g = 0
      · rw [if_pos hg] at hrest
        injection hrest with e1 e2
        have HE1 := Lib.hid e1
        have HE2 := Lib.hid e2
        have hgb : (nw.g == 0) = true := by simpa using hg
        clear hg e1 e2
        have hres := HW.out.res
        have zf0 := hres.2.2 0
        have zz0 := hres.at_ 0 rfl
        have zf1 := hres.2.2 1
        have zz1 := hres.at_ 1 rfl
        have zf2 := hres.2.2 2
        have zz2 := hres.at_ 2 rfl
        have zf3 := hres.2.2 3
        have zz3 := hres.at_ 3 rfl
        have zf4 := hres.2.2 4
        have zz4 := hres.at_ 4 rfl
        have z9 := hres.set5 (.int .i64 0) (.int .i64 0) (.int .i64 0) (.int .i64 0) (.slice none 0 0)
        have R0 := Lib.hid (z9.at_ 0 rfl)
        have R1 := Lib.hid (z9.at_ 1 rfl)
        have R2 := Lib.hid (z9.at_ 2 rfl)
        have R3 := Lib.hid (z9.at_ 3 rfl)
        have R4 := Lib.hid (z9.at_ 4 rfl)
        have HBf := Lib.hid (below_set5' (HW.out.base) (b := w.heap.size) (Nat.le_refl _) (.int .i64 0) (.int .i64 0) (.int .i64 0) (.int .i64 0) (.slice none 0 0))
        clear z9 hres
        go_wp2_with fail
        simp only [Exit.jump1]
        generalize (((((v.setCell ⟨w.heap.size, 0, none⟩ (.int .i64 0)).setCell ⟨w.heap.size, 1, none⟩ (.int .i64 0)).setCell ⟨w.heap.size, 2, none⟩ (.int .i64 0)).setCell ⟨w.heap.size, 3, none⟩ (.int .i64 0)).setCell ⟨w.heap.size, 4, none⟩ (.slice none 0 0)) = Wf at *
        refine bodyPost_ret (v := .tuple #[.agg #[.int .i64 0, .int .i64 0, .int .i64 0, .int .i64 0, .slice none 0 0], .int .i64 51]) (by simp [results, Try.results22, go_sem, R0.out, R1.out, R2.out, R3.out, R4.out]) rfl ?_
        rw [← HE1.out, ← HE2.out]
        exact ⟨none, 0, rfl, RdC.nil _ _ _, fun b o e => (by cases e), HBf.out⟩
      · rw [if_neg hg] at hrest
        injection hrest with e1 e2
        have HE1 := Lib.hid e1
        have HE2 := Lib.hid e2
        have hgb : (nw.g == 0) = false := by simpa using hg
        have g1 := HW.out.cur.at_ 1 rfl
        have g2 := HW.out.cur.at_ 2 rfl
        have g3 := HW.out.cur.at_ 3 rfl
        have g4 := HW.out.cur.at_ 4 rfl
        have HRd := Lib.hid (HW.out.rd.other5 (b := w.heap.size) (fun g o e => by have := HW.out.far g o e; omega) (.int .i64 nw.g) (.int .i64 nw.e) (.int .i64 nw.i) (.int .i64 nw.m) (.slice A nw.ps.length c))
        clear hg e1 e2
        have hres := HW.out.res
        have zf0 := hres.2.2 0
        have zz0 := hres.at_ 0 rfl
        have zf1 := hres.2.2 1
        have zz1 := hres.at_ 1 rfl
        have zf2 := hres.2.2 2
        have zz2 := hres.at_ 2 rfl
        have zf3 := hres.2.2 3
        have zz3 := hres.at_ 3 rfl
        have zf4 := hres.2.2 4
        have zz4 := hres.at_ 4 rfl
        have z9 := hres.set5 (.int .i64 nw.g) (.int .i64 nw.e) (.int .i64 nw.i) (.int .i64 nw.m) (.slice A nw.ps.length c)
        have R0 := Lib.hid (z9.at_ 0 rfl)
        have R1 := Lib.hid (z9.at_ 1 rfl)
        have R2 := Lib.hid (z9.at_ 2 rfl)
        have R3 := Lib.hid (z9.at_ 3 rfl)
        have R4 := Lib.hid (z9.at_ 4 rfl)
        have HBf := Lib.hid (below_set5' (HW.out.base) (b := w.heap.size) (Nat.le_refl _) (.int .i64 nw.g) (.int .i64 nw.e) (.int .i64 nw.i) (.int .i64 nw.m) (.slice A nw.ps.length c))
        clear z9 hres
        go_wp2_with fail
        simp only [Exit.jump1]
        generalize (((((v.setCell ⟨w.heap.size, 0, none⟩ (.int .i64 nw.g)).setCell ⟨w.heap.size, 1, none⟩ (.int .i64 nw.e)).setCell ⟨w.heap.size, 2, none⟩ (.int .i64 nw.i)).setCell ⟨w.heap.size, 3, none⟩ (.int .i64 nw.m)).setCell ⟨w.heap.size, 4, none⟩ (.slice A nw.ps.length c)) = Wf at *
        refine bodyPost_ret (v := .tuple #[.agg #[.int .i64 nw.g, .int .i64 nw.e, .int .i64 nw.i, .int .i64 nw.m, .slice A nw.ps.length c], .int .i64 0]) (by simp [results, Try.results22, go_sem, R0.out, R1.out, R2.out, R3.out, R4.out]) rfl ?_
        rw [← HE1.out, ← HE2.out]
        exact ⟨A, c, rfl, HRd.out, fun b o e => (by have := HW.out.far b o e; omega), HBf.out⟩
    · have hkb : ((k : Int) == 4) = false := by rw [beq_eq_false_iff_ne]; omega
      have hk3 : k < 4 := by omega
      rw [loadF_step st k nw hk3] at hrest
      obtain ⟨K2, hK2⟩ : ∃ K2, K2 = k / 2 := ⟨_, rfl⟩
      have hq : (k : Int) / 2 = (K2 : Int) := by omega
      have HK2 := Lib.hid hK2
      clear hK2 hk4
      go_wp2_with fail
      refine (read_any (k : Int) v d lab st (HD.out.below HW.out.base)).mono ?_
      rintro e' v1 ⟨A1, n1, c1, rfl, hR1, hb1, hn1, hready⟩
      have hr1 := HW.out.res.below hb1
      have hcu1 := HW.out.cur.below hb1
      have hB1 := HW.out.base.trans (hb1.mono HW.out.base.size)
      have hs1 : w.heap.size + 2 ≤ v1.heap.size := by have := hcu1.1; omega
      by_cases hrd : st.ready (k : Int) = 0
      · rw [if_pos hrd] at hrest
        obtain ⟨rfl, rfl, rfl, _⟩ := hready hrd
        rw [hrd]
        generalize st.readB (k : Int) = l at hR1 hrest
        have HR1 := Lib.hid hR1
        have HRest := Lib.hid hrest
        have HRn := Lib.hid (HW.out.rd.below hb1)
        clear hready hrd hR1 hrest g0
        go_wp2_with fail
        refine (sdecode_any _ 128 128 l v1 HR1.out (by omega) (by omega)).mono ?_
        rintro e' v2 ⟨A2, c2, rfl, hR2, hf2, hb2⟩
        have hr2 := hr1.below hb2
        have hcu2 := hcu1.below hb2
        have hB2 := hB1.trans (hb2.mono hB1.size)
        have HRn2 := Lib.hid (HRn.out.below hb2)
        clear hr1 hcu1 hB1
        cases hsu : isSu l with
        | false =>
          have hrl : Su.read l = none_ := by unfold Su.read; rw [hsu]; rfl
          have hpk : pick nw k l = nw := by unfold pick; rw [hsu]; simp
          rw [hpk] at HRest
          rw [hrl]
          have hr3 := hr2.alloc (.cells #[.int .i64 0, .int .i64 0, .int .i64 0, .int .i64 0, .slice A2 0 c2] 26)
          have hcu3 := hcu2.alloc (.cells #[.int .i64 0, .int .i64 0, .int .i64 0, .int .i64 0, .slice A2 0 c2] 26)
          have hB3 := hB2.alloc hB2.size (.cells #[.int .i64 0, .int .i64 0, .int .i64 0, .int .i64 0, .slice A2 0 c2] 26)
          have HRn3 := Lib.hid (HRn2.out.alloc (.cells #[.int .i64 0, .int .i64 0, .int .i64 0, .int .i64 0, .slice A2 0 c2] 26))
          have HL := Lib.hid (⟨by omega, hB3, hr3, hcu3, HRn3.out, HW.out.far, by rw [HTT.out]; exact HRest.out⟩ : LoadW w st (k + 1) nw A c _)
          clear hr2 hcu2 hB2 hr3 hcu3 hB3 hR2 hf2 hrl hpk hsu
          go_wp2_with fail
          refine wp_goto ?_
          refine ⟨rfl, ⟨rfl, rfl, rfl, rfl, rfl, k + 1, nw, A, c, ?_, HL.out⟩, ?_⟩
          · show Value.int .i64 ((k : Int) + 1) = .int .i64 ((k + 1 : Nat) : Int)
            rw [Int.natCast_add]; rfl
          · show 4 - ((k : Int) + 1).toNat < 4 - (k : Int).toNat
            omega
        | true =>
          have hrl : Su.read l = sOf l := by unfold Su.read; rw [hsu]; rfl
          rw [hrl] at hR2 ⊢
          obtain ⟨G, hG⟩ : ∃ G : Nat, (sOf l).g = (G : Int) := ⟨_, rfl⟩
          have hpk : pick nw k l = if ((G : Int) % 2 = (K2 : Int) ∧ nw.g < (G : Int)) then sOf l else nw := by
            unfold pick
            rw [hsu, hG, ← HK2.out]
            simp
          rw [hpk] at HRest
          generalize sOf l = s at *
          rw [hG]
          have HR2 := Lib.hid hR2
          have hr3 := hr2.alloc (.cells #[.int .i64 (G : Int), .int .i64 s.e, .int .i64 s.i, .int .i64 s.m, .slice A2 s.ps.length c2] 26)
          have hcu3 := hcu2.alloc (.cells #[.int .i64 (G : Int), .int .i64 s.e, .int .i64 s.i, .int .i64 s.m, .slice A2 s.ps.length c2] 26)
          have hB3 := hB2.alloc hB2.size (.cells #[.int .i64 (G : Int), .int .i64 s.e, .int .i64 s.i, .int .i64 s.m, .slice A2 s.ps.length c2] 26)
          have HRn3 := Lib.hid (HRn2.out.alloc (.cells #[.int .i64 (G : Int), .int .i64 s.e, .int .i64 s.i, .int .i64 s.m, .slice A2 s.ps.length c2] 26))
          have hg3 := hcu3.at_ 0 rfl
          by_cases hp : (G : Int) % 2 = (K2 : Int)
          · have hpb : ((G : Int) % 2 == (K2 : Int)) = true := by simpa using hp
            by_cases hlt : nw.g < (G : Int)
            · rw [if_pos ⟨hp, hlt⟩] at HRest
              have w0 := hcu3.2.2 0
              have w1 := hcu3.2.2 1
              have w2 := hcu3.2.2 2
              have w3 := hcu3.2.2 3
              have w4 := hcu3.2.2 4
              have w6 := hcu3.at_ 1 rfl
              have w7 := hcu3.at_ 2 rfl
              have w8 := hcu3.at_ 3 rfl
              have w9 := hcu3.at_ 4 rfl
              have HFar := Lib.hid (fun b o (e : A2 = some ⟨b, o, none⟩) => (show w.heap.size + 2 ≤ b from Nat.le_trans hs1 (hf2 b o e)))
              have hcur := hcu3.set5 (.int .i64 (G : Int)) (.int .i64 s.e) (.int .i64 s.i) (.int .i64 s.m) (.slice A2 s.ps.length c2)
              rw [← hG] at hcur
              have hres := ((((hr3.other (b := w.heap.size + 1) (i := 0) (v := .int .i64 (G : Int)) (by omega)).other (b := w.heap.size + 1) (i := 1) (v := .int .i64 s.e) (by omega)).other (b := w.heap.size + 1) (i := 2) (v := .int .i64 s.i) (by omega)).other (b := w.heap.size + 1) (i := 3) (v := .int .i64 s.m) (by omega)).other (b := w.heap.size + 1) (i := 4) (v := .slice A2 s.ps.length c2) (by omega)
              have hrds := (HR2.out.alloc (.cells #[.int .i64 (G : Int), .int .i64 s.e, .int .i64 s.i, .int .i64 s.m, .slice A2 s.ps.length c2] 26)).other5 (b := w.heap.size + 1) (fun g o e => by have := HFar.out g o e; omega) (.int .i64 (G : Int)) (.int .i64 s.e) (.int .i64 s.i) (.int .i64 s.m) (.slice A2 s.ps.length c2)
              have hBs := below_set5' hB3 (b := w.heap.size + 1) (by omega) (.int .i64 (G : Int)) (.int .i64 s.e) (.int .i64 s.i) (.int .i64 s.m) (.slice A2 s.ps.length c2)
              rw [← hG] at hres hrds hBs
              have HL := Lib.hid (⟨by omega, hBs, hres, hcur, hrds, HFar.out, by rw [HTT.out]; exact HRest.out⟩ : LoadW w st (k + 1) s A2 c2 _)
              clear hr2 hcu2 hB2 hr3 hcu3 hB3 hf2 hrl hpk hsu hcur hres hrds hBs hR2
              rw [hG] at HL
              clear hG
              go_wp2_with fail
              refine wp_goto ?_
              refine ⟨rfl, ⟨rfl, rfl, rfl, rfl, rfl, k + 1, s, A2, c2, ?_, HL.out⟩, ?_⟩
              · show Value.int .i64 ((k : Int) + 1) = .int .i64 ((k + 1 : Nat) : Int)
                rw [Int.natCast_add]; rfl
              · show 4 - ((k : Int) + 1).toNat < 4 - (k : Int).toNat
                omega
            · rw [if_neg (fun h => hlt h.2)] at HRest
              have HL := Lib.hid (⟨by omega, hB3, hr3, hcu3, HRn3.out, HW.out.far, by rw [HTT.out]; exact HRest.out⟩ : LoadW w st (k + 1) nw A c _)
              clear hr2 hcu2 hB2 hr3 hB3 hf2 hrl hpk hsu hR2 hG
              go_wp2_with fail
              refine wp_goto ?_
              refine ⟨rfl, ⟨rfl, rfl, rfl, rfl, rfl, k + 1, nw, A, c, ?_, HL.out⟩, ?_⟩
              · show Value.int .i64 ((k : Int) + 1) = .int .i64 ((k + 1 : Nat) : Int)
                rw [Int.natCast_add]; rfl
              · show 4 - ((k : Int) + 1).toNat < 4 - (k : Int).toNat
                omega
          · have hpb : ((G : Int) % 2 == (K2 : Int)) = false := by simpa using hp
            rw [if_neg (fun h => hp h.1)] at HRest
            have HL := Lib.hid (⟨by omega, hB3, hr3, hcu3, HRn3.out, HW.out.far, by rw [HTT.out]; exact HRest.out⟩ : LoadW w st (k + 1) nw A c _)
            clear hr2 hcu2 hB2 hr3 hB3 hf2 hrl hpk hsu hR2 hG
            go_wp2_with fail
            refine wp_goto ?_
            refine ⟨rfl, ⟨rfl, rfl, rfl, rfl, rfl, k + 1, nw, A, c, ?_, HL.out⟩, ?_⟩
            · show Value.int .i64 ((k : Int) + 1) = .int .i64 ((k + 1 : Nat) : Int)
              rw [Int.natCast_add]; rfl
            · show 4 - ((k : Int) + 1).toNat < 4 - (k : Int).toNat
              omega
      · rw [if_neg hrd] at hrest
        injection hrest with e1 e2
        have HE1 := Lib.hid e1
        have HE2 := Lib.hid e2
        obtain ⟨rd, hrdv⟩ : ∃ rd, rd = st.ready (k : Int) := ⟨_, rfl⟩
        rw [← hrdv] at hrd HE2 ⊢
        have hrb : (rd != 0) = true := by simpa using hrd
        have HRdv := Lib.hid hrdv
        clear hrd e1 e2 hrdv hready hR1
        have hres := hr1
        have zf0 := hres.2.2 0
        have zz0 := hres.at_ 0 rfl
        have zf1 := hres.2.2 1
        have zz1 := hres.at_ 1 rfl
        have zf2 := hres.2.2 2
        have zz2 := hres.at_ 2 rfl
        have zf3 := hres.2.2 3
        have zz3 := hres.at_ 3 rfl
        have zf4 := hres.2.2 4
        have zz4 := hres.at_ 4 rfl
        have z9 := hres.set5 (.int .i64 0) (.int .i64 0) (.int .i64 0) (.int .i64 0) (.slice none 0 0)
        have R0 := Lib.hid (z9.at_ 0 rfl)
        have R1 := Lib.hid (z9.at_ 1 rfl)
        have R2 := Lib.hid (z9.at_ 2 rfl)
        have R3 := Lib.hid (z9.at_ 3 rfl)
        have R4 := Lib.hid (z9.at_ 4 rfl)
        have HBf := Lib.hid (below_set5' (hB1) (b := w.heap.size) (Nat.le_refl _) (.int .i64 0) (.int .i64 0) (.int .i64 0) (.int .i64 0) (.slice none 0 0))
        clear z9 hres
        go_wp2_with fail
        simp only [Exit.jump1]
        generalize (((((v1.setCell ⟨w.heap.size, 0, none⟩ (.int .i64 0)).setCell ⟨w.heap.size, 1, none⟩ (.int .i64 0)).setCell ⟨w.heap.size, 2, none⟩ (.int .i64 0)).setCell ⟨w.heap.size, 3, none⟩ (.int .i64 0)).setCell ⟨w.heap.size, 4, none⟩ (.slice none 0 0)) = Wf at *
        refine bodyPost_ret (v := .tuple #[.agg #[.int .i64 0, .int .i64 0, .int .i64 0, .int .i64 0, .slice none 0 0], .int .i64 rd]) (by simp [results, Try.results22, go_sem, R0.out, R1.out, R2.out, R3.out, R4.out]) rfl ?_
        rw [← HE1.out, ← HE2.out]
        exact ⟨none, 0, rfl, RdC.nil _ _ _, fun b o e => (by cases e), HBf.out⟩
end Go.Proofs.Ytbdomhookjmmgaa
