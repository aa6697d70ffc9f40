/- edit.Places: the places of a version's files, in memory of the call's own. edit.unlike's first: is a key new? Which numbers stand twice among places: plain; what 'first' makes of memory. edit.unlike: are all IDs, and all plots, unlike? -/
import Derived.Test.YthfcjlndaajkfaaGreatG05
import Derived.Test.YthfcjlndaajkfaaGreatG04
import Derived.Test.YthfcjlndaajkfaaGreatG07
namespace Go.Proofs.YthfcjlndaajkfaaGreat
open Go.RowKit
set_option linter.unusedVariables false
set_option linter.unusedSimpArgs false
namespace Ed
/-- A place, with the address of its pairs. -/
structure Pc where
  id : Int
  ep : Int
  P : Option Addr
  pn : Nat
  pc : Nat
def Pc.cells (x : Pc) : List Value := [.int .i64 x.id, .int .i64 x.ep, .slice x.P x.pn x.pc]
def pflat (l : List Pc) : List Value := l.flatMap Pc.cells
def plOf (x : Pc × List (Int × Int)) : Pl := ⟨x.1.id, x.1.ep, x.2⟩
theorem pcells_one (x : Pc) : ∀ u ∈ x.cells, u.oneCell' = true := by
  intro u hu
  simp only [Pc.cells, List.mem_cons, List.not_mem_nil, or_false] at hu
  rcases hu with rfl | rfl | rfl <;> rfl
end Ed
theorem manyPl : Many 3 27 32 (.agg #[.int .i64 0, .int .i64 0, .slice none 0 0]) 40 := ⟨by kernel_rfl, Tryz.underlying27, by kernel_rfl, by decide, by decide⟩
/-- Places in memory of the call's own. -/
structure OwPl (w : World) (base : Nat) (R : Option Addr) (n c : Nat) (F : List (Ed.Pc × List (Int × Int))) : Prop where
  len : F.length = n
  row : OwnC 3 w base 32 R n c (Ed.pflat (F.map (·.1)))
  prs : ∀ x ∈ F, OwP w base x.1.P x.1.pn x.1.pc x.2
  off : ∀ x ∈ F, Off x.1.P R
theorem OwPl.below {w w' : World} {base n c : Nat} {R : Option Addr} {F : List (Ed.Pc × List (Int × Int))} (h : OwPl w base R n c F) (hb : Below w.heap.size w w') : OwPl w' base R n c F := ⟨h.len, h.row.below hb, fun x hx => (h.prs x hx).below hb, h.off⟩
theorem OwPl.more {w w' : World} {base n c c' : Nat} {R R' : Option Addr} {F : List (Ed.Pc × List (Int × Int))} {x : Ed.Pc × List (Int × Int)} (h : OwPl w base R n c F) (hg : GrewC 3 w w' base 32 R R' n c (n + 1) c' (Ed.pflat (F.map (·.1)) ++ x.1.cells)) (hP : OwP w base x.1.P x.1.pn x.1.pc x.2) (ho : Off x.1.P R) : OwPl w' base R' (n + 1) c' (F ++ [x]) := by
  have hb : blkOf R' = blkOf R ∨ blkOf R' = some w.heap.size := by have := hg.blk; rwa [ownBlock_eq, ownBlock_eq] at this
  have hG : w.grownBy w' (blkOf R) := by have := hg.grew; rwa [ownBlock_eq] at this
  have offR : ∀ Q : Option Addr, Off Q R → (∀ g, blkOf Q = some g → g < w.heap.size) → Off Q R' := fun Q hQ hl g h1 h2 => by
    rcases hb with hb | hb
    · exact hQ g h1 (hb ▸ h2)
    · rw [hb] at h2; injection h2 with h2; have := hl g h1; omega
  have hmem : ∀ y ∈ F ++ [x], y ∈ F ∨ y = x := fun y hy => by
    rcases List.mem_append.1 hy with hy | hy
    · exact .inl hy
    · exact .inr (List.mem_singleton.1 hy)
  refine ⟨by rw [List.length_append, h.len]; rfl, ?_, fun y hy => ?_, fun y hy => ?_⟩
  · have e : Ed.pflat ((F ++ [x]).map (·.1)) = Ed.pflat (F.map (·.1)) ++ x.1.cells := by unfold Ed.pflat; rw [List.map_append, List.flatMap_append]; simp
    rw [e]; exact hg.own
  · rcases hmem y hy with hy | rfl
    · exact (h.prs y hy).grown hG (fun g hg e => h.off y hy g e hg)
    · exact hP.grown hG (fun g hg e => ho g e hg)
  · rcases hmem y hy with hy | rfl
    · exact offR _ (h.off y hy) (fun g hg => ((h.prs y hy).lt g hg).2)
    · exact offR _ ho (fun g hg => (hP.lt g hg).2)
/-- What Places hands back. -/
def GivesPls (w : World) (l : List Ed.Pl) (e : Ending) (w' : World) : Prop :=
  ∃ R c F, e = .returned (.slice R F.length c) ∧ OwPl w' w.heap.size R F.length c F ∧ F.map Ed.plOf = l ∧ Below w.heap.size w w'
set_option maxRecDepth 100000 in
set_option maxHeartbeats 16000000 in
theorem places_any (nx sq : Int) (A : Option Addr) (n c : Nat) (B : Option Addr) (m d : Nat) (L : List (Ed.Lg × List (Int × Int))) (M : List (Pk.Tb × List (Int × Int))) (w : World) (hL : RdLs w A n L) (hM : RdTs w B m M) (hn : n ≤ 20000) (hm : m ≤ 20000) (hlp : ∀ x ∈ L, x.1.pn ≤ 100000) (htp : ∀ x ∈ M, x.1.pn ≤ 100000) :
    Calls Tryz.prog 8 #[.agg #[.int .i64 nx, .int .i64 sq, .slice A n c, .slice B m d]] w (GivesPls w (L.map (fun x => (Ed.loOf x).p) ++ M.map (fun x => (Ed.taOf x).p))) := by
  have hal : Below w.heap.size w (w.alloc (.cells #[.int .i64 nx, .int .i64 sq, .slice A n c, .slice B m d] 25)) := (Below.refl _ _).alloc (Nat.le_refl _) _
  have HX0 := Lib.hid (Holds.new w #[.int .i64 nx, .int .i64 sq, .slice A n c, .slice B m d] 25)
  have HB0 := Lib.hid hal
  have HRL := Lib.hid hL
  have HRT := Lib.hid hM
  have Hlp := Lib.hid hlp
  have Htp := Lib.hid htp
  have HLN := Lib.hid (And.intro hL.len (And.intro hM.len (And.intro hn hm)))
  clear hal hL hM hlp htp
  go_enter Tryz.func8, Tryz.ntmps8
  go_upto_region 2 with fail
  generalize (w.alloc (.cells #[.int .i64 nx, .int .i64 sq, .slice A n c, .slice B m d] 25)) = u at *
  replace HX0 : Hid (Holds u w.heap.size [.int .i64 nx, .int .i64 sq, .slice A n c, .slice B m d]) := HX0
  have HBox := Lib.hid HX0
  have b2 := HBox.out.at_ 2 rfl
  go_wp2_with fail
  clear b2
  go_loopw [3, 11] (fun s3 ii wr => ∃ (k : Nat) (F : List (Ed.Pc × List (Int × Int))) (R : Option Addr) (rc : Nat), k ≤ n ∧ ii = .int .i64 (k : Int) ∧ s3 = .slice R F.length rc ∧ Hid (OwPl wr u.heap.size R F.length rc F) ∧ Hid (F.map Ed.plOf = (L.take k).map (fun x => (Ed.loOf x).p)) ∧ Hid (Below u.heap.size u wr)) (fun _ ii _ => n - (intOf ii).toNat)
  case atStart => exact ⟨0, [], none, 0, by omega, rfl, rfl, Lib.hid ⟨rfl, OwnC.none_ _ _ _ _, (fun x hx => nomatch hx), (fun x hx => nomatch hx)⟩, Lib.hid rfl, Lib.hid (Below.refl _ _)⟩
  case round =>
    skip
    obtain ⟨k, F, R, rc, hk, rfl, rfl, HO, HF, HB⟩ := hrel
    by_cases hlt : k < n
    · have hki : (k : Int) < (n : Int) := by omega
      have hk0 : (0 : Int) ≤ (k : Int) := by omega
      obtain ⟨y, hy⟩ : ∃ y, L[k]? = some y := ⟨_, List.getElem?_eq_getElem (by rw [HRL.out.len]; exact hlt)⟩
      obtain ⟨b, o, hAb, _, hp, hc⟩ := HRL.out.four hy
      have HY := Lib.hid hy
      have hpn := Hlp.out y (List.mem_of_getElem? hy)
      have hyF := Lib.hid (show F.length ≤ 50000 by
        have h := congrArg List.length HF.out
        simp only [List.length_map, List.length_append, List.length_take] at h
        have := HLN.out
        omega)
      clear hy
      subst hAb
      obtain ⟨⟨id, ep, P, pn, pc, se⟩, ps⟩ := y
      dsimp only at hc hp hpn HY
      obtain ⟨e0, e1, e2, e3⟩ := hc wr (below_next HB0.out HB.out)
      have HP := Lib.hid (hp.below (below_next HB0.out HB.out))
      clear hc hp
      have hal : Below wr.heap.size wr (wr.alloc (.cells #[.int .i64 id, .int .i64 ep, .slice P pn pc, .int .i64 se] 62)) := (Below.refl _ _).alloc (Nat.le_refl _) _
      have HX := Lib.hid (Holds.new wr #[.int .i64 id, .int .i64 ep, .slice P pn pc, .int .i64 se] 62)
      have HOa := Lib.hid (HO.out.below hal)
      have HPa := Lib.hid (HP.out.below hal)
      have HBa := Lib.hid (below_next HB.out hal)
      clear hal
      go_upto_region 5 with fail
      clear e0 e1 e2 e3 HO HP HB
      generalize (wr.alloc (.cells #[.int .i64 id, .int .i64 ep, .slice P pn pc, .int .i64 se] 62)) = wa at *
      generalize wr.heap.size = xb at *
      replace HX : Hid (Holds wa xb [.int .i64 id, .int .i64 ep, .slice P pn pc, .int .i64 se]) := HX
      have x0 := HX.out.at_ 0 rfl
      have x1 := HX.out.at_ 1 rfl
      have x2 := HX.out.at_ 2 rfl
      have HC := Lib.hid (ownplace_any id ep P pn pc ps wa HPa.out.1 hpn)
      go_wp2_with fail
      refine HC.out.mono ?_
      rintro e v ⟨P2, d2, rfl, hO, hbv⟩
      have HN := Lib.hid (show OwP v wa.heap.size P2 pn d2 ps from ⟨HPa.out.1.1, hO⟩)
      have HOv := Lib.hid (HOa.out.below hbv)
      have HBv := Lib.hid (below_next HBa.out hbv)
      have hav := hbv.size
      have HRlt := Lib.hid (fun g (hg : blkOf R = some g) => (HOa.out.row.lt g hg).2)
      clear x0 x1 x2 hO hbv HOa
      have hal : Below v.heap.size v (v.alloc (.cells #[.int .i64 id, .int .i64 ep, .slice P2 pn d2] 32)) := (Below.refl _ _).alloc (Nat.le_refl _) _
      have HNa := Lib.hid (HN.out.below hal)
      have HOb := Lib.hid (HOv.out.below hal)
      have HBb := Lib.hid (below_next HBv.out hal)
      have HRn := Lib.hid (rdc_new 3 v 32 [.int .i64 id, .int .i64 ep, .slice P2 pn d2] 1 rfl (0, 0))
      have hsz : u.heap.size ≤ wa.heap.size := HBa.out.size
      clear hal
      go_wp2_with (at_builtin; refine wpList_appC manyPl rfl (.tmp 15) (.tmp 19) rfl rfl HOb.out.row ⟨v.heap.size, 0, none⟩ 1 1 [.int .i64 id, .int .i64 ep, .slice P2 pn d2] (Ed.pcells_one ⟨id, ep, P2, pn, d2⟩) rfl HRn.out (by have := hyF.out; omega) HBb.out.size ?_; intro R4 c4 v4 hg4; have HG4 := Lib.hid hg4; clear hg4)
      have HO4 := Lib.hid (HOb.out.more (x := (⟨id, ep, P2, pn, d2⟩, ps)) HG4.out (HNa.out.base_ hsz) (fun g h1 h2 => by have := (HNa.out.lt g h1).1; have := HRlt.out g h2; omega))
      have HB4 := Lib.hid (HBb.out.grown HG4.out.grew HBb.out.size (fun g hg => by rw [ownBlock_eq] at hg; exact (HOb.out.row.lt g hg).1))
      have HF4 := Lib.hid (show (F ++ [((⟨id, ep, P2, pn, d2⟩ : Ed.Pc), ps)]).map Ed.plOf = (L.take (k + 1)).map (fun x => (Ed.loOf x).p) by
        rw [List.map_append, HF.out, List.take_add_one, HY.out, List.map_append]
        rfl)
      go_roundw
      case rel => exact ⟨k + 1, F ++ [((⟨id, ep, P2, pn, d2⟩ : Ed.Pc), ps)], R4, c4, by omega, by go_num, by rw [List.length_append]; rfl, by rw [List.length_append]; exact HO4, HF4, HB4⟩
      case measure => simp [intOf]; omega
    · have hki : ¬ (k : Int) < (n : Int) := by omega
      have hkn : n = k := by omega
      clear hlt hk
      subst hkn
      have HO1 := HO
      have HB1 := HB
      have HF1 := Lib.hid (show F.map Ed.plOf = L.map (fun x => (Ed.loOf x).p) ++ (M.take 0).map (fun x => (Ed.taOf x).p) by
        have h := HF.out
        rw [List.take_of_length_le (by rw [HRL.out.len]; exact Nat.le_refl _)] at h
        rw [h]; simp)
      have b3 := (HBox.out.below HB.out).at_ 3 rfl
      clear HO HB HF
      obtain ⟨F0, hF0⟩ : ∃ F0, F0 = F := ⟨F, rfl⟩
      subst hF0
      obtain ⟨R0, hR0⟩ : ∃ R0, R0 = R := ⟨R, rfl⟩
      subst hR0
      obtain ⟨rc0, hrc0⟩ : ∃ rc0, rc0 = rc := ⟨rc, rfl⟩
      subst hrc0
      go_wp2_with fail
      clear b3
      go_loopw [3, 25] (fun s3 ii wr => ∃ (k : Nat) (F : List (Ed.Pc × List (Int × Int))) (R : Option Addr) (rc : Nat), k ≤ m ∧ ii = .int .i64 (k : Int) ∧ s3 = .slice R F.length rc ∧ Hid (OwPl wr u.heap.size R F.length rc F) ∧ Hid (F.map Ed.plOf = L.map (fun x => (Ed.loOf x).p) ++ (M.take k).map (fun x => (Ed.taOf x).p)) ∧ Hid (Below u.heap.size u wr)) (fun _ ii _ => m - (intOf ii).toNat)
      case atStart => exact ⟨0, F0, R0, rc0, by omega, rfl, rfl, HO1, HF1, HB1⟩
      case round =>
        clear HO1 HF1 HB1
        obtain ⟨k, F, R, rc, hk, rfl, rfl, HO, HF, HB⟩ := hrel
        by_cases hlt : k < m
        · have hki : (k : Int) < (m : Int) := by omega
          have hk0 : (0 : Int) ≤ (k : Int) := by omega
          obtain ⟨y, hy⟩ : ∃ y, M[k]? = some y := ⟨_, List.getElem?_eq_getElem (by rw [HRT.out.len]; exact hlt)⟩
          obtain ⟨b, o, hAb, _, hp, hc⟩ := HRT.out.nine hy
          have HY := Lib.hid hy
          have hpn := Htp.out y (List.mem_of_getElem? hy)
          have hyF := Lib.hid (show F.length ≤ 50000 by
            have h := congrArg List.length HF.out
            simp only [List.length_map, List.length_append, List.length_take] at h
            have := HLN.out
            omega)
          clear hy
          subst hAb
          obtain ⟨⟨id, ep, P, pn, pc, sz, lv, ct, lo, hi, tp⟩, ps⟩ := y
          dsimp only at hc hp hpn HY
          obtain ⟨e0, e1, e2, e3, e4, e5, e6, e7, e8⟩ := hc wr (below_next HB0.out HB.out)
          have HP := Lib.hid (hp.below (below_next HB0.out HB.out))
          clear hc hp
          have hal : Below wr.heap.size wr (wr.alloc (.cells #[.int .i64 id, .int .i64 ep, .slice P pn pc, .int .i64 sz, .int .i64 lv, .int .i64 ct, .string lo, .string hi, .int .i64 tp] 35)) := (Below.refl _ _).alloc (Nat.le_refl _) _
          have HX := Lib.hid (Holds.new wr #[.int .i64 id, .int .i64 ep, .slice P pn pc, .int .i64 sz, .int .i64 lv, .int .i64 ct, .string lo, .string hi, .int .i64 tp] 35)
          have HOa := Lib.hid (HO.out.below hal)
          have HPa := Lib.hid (HP.out.below hal)
          have HBa := Lib.hid (below_next HB.out hal)
          clear hal
          go_upto_region 10 with fail
          clear e0 e1 e2 e3 e4 e5 e6 e7 e8 HO HP HB
          generalize (wr.alloc (.cells #[.int .i64 id, .int .i64 ep, .slice P pn pc, .int .i64 sz, .int .i64 lv, .int .i64 ct, .string lo, .string hi, .int .i64 tp] 35)) = wa at *
          generalize wr.heap.size = xb at *
          replace HX : Hid (Holds wa xb [.int .i64 id, .int .i64 ep, .slice P pn pc, .int .i64 sz, .int .i64 lv, .int .i64 ct, .string lo, .string hi, .int .i64 tp]) := HX
          have x0 := HX.out.at_ 0 rfl
          have x1 := HX.out.at_ 1 rfl
          have x2 := HX.out.at_ 2 rfl
          have HC := Lib.hid (ownplace_any id ep P pn pc ps wa HPa.out.1 hpn)
          go_wp2_with fail
          refine HC.out.mono ?_
          rintro e v ⟨P2, d2, rfl, hO, hbv⟩
          have HN := Lib.hid (show OwP v wa.heap.size P2 pn d2 ps from ⟨HPa.out.1.1, hO⟩)
          have HOv := Lib.hid (HOa.out.below hbv)
          have HBv := Lib.hid (below_next HBa.out hbv)
          have hav := hbv.size
          have HRlt := Lib.hid (fun g (hg : blkOf R = some g) => (HOa.out.row.lt g hg).2)
          clear x0 x1 x2 hO hbv HOa
          have hal : Below v.heap.size v (v.alloc (.cells #[.int .i64 id, .int .i64 ep, .slice P2 pn d2] 32)) := (Below.refl _ _).alloc (Nat.le_refl _) _
          have HNa := Lib.hid (HN.out.below hal)
          have HOb := Lib.hid (HOv.out.below hal)
          have HBb := Lib.hid (below_next HBv.out hal)
          have HRn := Lib.hid (rdc_new 3 v 32 [.int .i64 id, .int .i64 ep, .slice P2 pn d2] 1 rfl (0, 0))
          have hsz : u.heap.size ≤ wa.heap.size := HBa.out.size
          clear hal
          go_wp2_with (at_builtin; refine wpList_appC manyPl rfl (.tmp 29) (.tmp 33) rfl rfl HOb.out.row ⟨v.heap.size, 0, none⟩ 1 1 [.int .i64 id, .int .i64 ep, .slice P2 pn d2] (Ed.pcells_one ⟨id, ep, P2, pn, d2⟩) rfl HRn.out (by have := hyF.out; omega) HBb.out.size ?_; intro R4 c4 v4 hg4; have HG4 := Lib.hid hg4; clear hg4)
          have HO4 := Lib.hid (HOb.out.more (x := (⟨id, ep, P2, pn, d2⟩, ps)) HG4.out (HNa.out.base_ hsz) (fun g h1 h2 => by have := (HNa.out.lt g h1).1; have := HRlt.out g h2; omega))
          have HB4 := Lib.hid (HBb.out.grown HG4.out.grew HBb.out.size (fun g hg => by rw [ownBlock_eq] at hg; exact (HOb.out.row.lt g hg).1))
          have HF4 := Lib.hid (show (F ++ [((⟨id, ep, P2, pn, d2⟩ : Ed.Pc), ps)]).map Ed.plOf = L.map (fun x => (Ed.loOf x).p) ++ (M.take (k + 1)).map (fun x => (Ed.taOf x).p) by
            rw [List.map_append, HF.out, List.take_add_one, HY.out, List.map_append]
            rw [List.append_assoc]
            rfl)
          go_roundw
          case rel => exact ⟨k + 1, F ++ [((⟨id, ep, P2, pn, d2⟩ : Ed.Pc), ps)], R4, c4, by omega, by go_num, by rw [List.length_append]; rfl, by rw [List.length_append]; exact HO4, HF4, HB4⟩
          case measure => simp [intOf]; omega
        · have hki : ¬ (k : Int) < (m : Int) := by omega
          have hkn : m = k := by omega
          clear hlt hk
          subst hkn
          have HE := Lib.hid (show GivesPls w (L.map (fun x => (Ed.loOf x).p) ++ M.map (fun x => (Ed.taOf x).p)) (.returned (.slice R F.length rc)) wr from
            ⟨R, rc, F, rfl, ⟨HO.out.len, HO.out.row.base_ HB0.out.size, fun x hx => (HO.out.prs x hx).base_ HB0.out.size, HO.out.off⟩, by
              have h := HF.out
              rwa [List.take_of_length_le (by rw [HRT.out.len]; exact Nat.le_refl _)] at h, below_next HB0.out HB.out⟩)
          go_wp2_with fail
          go_ret
          exact HE.out
end Go.Proofs.YthfcjlndaajkfaaGreat
namespace Go.Proofs.YthfcjlndaajkfaaGreat
open Go.RowKit
theorem turned_grown {w w' : World} {b : Nat} (h : w.mapTurned w' b) : w.grownBy w' (some b) := by
  obtain ⟨es, ck, es', ck', _, rfl⟩ := h
  exact ⟨rfl, rfl, rfl, by simp [Go.ChangeMaps.setBlock], fun k _ hne => setBlock_other (fun e => hne (by rw [e]))⟩
/-- What 'first' tells, and what it makes of its map. -/
def GivesFirst (w : World) (b n : Nat) (L : List (Int × Int)) (p : Int × Int) (e : Ending) (w' : World) : Prop :=
  e = .returned (.bool (decide (L.count p = 0))) ∧ Km w' b (n + 1) (L ++ [p]) ∧ w.grownBy w' (some b)
set_option maxRecDepth 100000 in
set_option maxHeartbeats 4000000 in
theorem first_any (what x : Int) (bs b n : Nat) (L : List (Int × Int)) (w : World) (hc : w.cell? ⟨bs, 0, none⟩ = some (.map (some b))) (hne : bs ≠ b) (hK : Km w b n L) (hn : n < 1000000) (hq : Q64 what) (hx : Q64 x) (hct : L.count (what, x) ≤ 1) :
    Calls Tryz.prog 61 #[.int .i64 what, .int .i64 x, .pointer (some ⟨bs, 0, none⟩)] w (GivesFirst w b n L (what, x)) := by
  have hcd : w.drew.cell? ⟨bs, 0, none⟩ = some (.map (some b)) := hc
  have HQ := Lib.hid (And.intro hq hx)
  by_cases h0 : L.count (what, x) = 0
  · obtain ⟨st, w1, w2, m1, m2, m3, hK2, hT2⟩ := hK.drew.entry0 hn hq hx h0
    have hlk := hK.drew.look hq hx
    rw [h0] at hlk
    have hlk2 := hK2.look hq hx
    rw [count_snoc, h0, if_pos ⟨rfl, rfl⟩] at hlk2
    have hg : w.grownBy w2 (some b) := (show w.grownBy w.drew (some b) from ⟨rfl, rfl, rfl, Nat.le_refl _, fun _ _ _ => rfl⟩).trans (turned_grown hT2)
    have hc2 : w2.cell? ⟨bs, 0, none⟩ = some (.map (some b)) := (World.grownBy.cell_far hg ⟨bs, 0, none⟩ (block_lt_of_cell hc) (fun e => hne (by injection e))).trans hc
    have HF := Lib.hid (show GivesFirst w b n L (what, x) (.returned (.bool true)) w2 from ⟨by rw [decide_eq_true h0], hK2, hg⟩)
    clear hK hT2 hK2 hg hq hx hct h0
    go_enter Tryz.func61, Tryz.ntmps61
    go_wp2_with fail
    go_region
    all_goals
      go_wp2
      go_ret
      exact HF.out
  · have h1 : L.count (what, x) = 1 := by omega
    obtain ⟨st, w1, w2, m1, m2, m3, hK2, hT2⟩ := hK.drew.entry1 hn hq hx h1
    have hlk := hK.drew.look hq hx
    rw [h1] at hlk
    have hlk2 := hK2.look hq hx
    rw [count_snoc, h1, if_pos ⟨rfl, rfl⟩] at hlk2
    have hg : w.grownBy w2 (some b) := (show w.grownBy w.drew (some b) from ⟨rfl, rfl, rfl, Nat.le_refl _, fun _ _ _ => rfl⟩).trans (turned_grown hT2)
    have hc2 : w2.cell? ⟨bs, 0, none⟩ = some (.map (some b)) := (World.grownBy.cell_far hg ⟨bs, 0, none⟩ (block_lt_of_cell hc) (fun e => hne (by injection e))).trans hc
    have HF := Lib.hid (show GivesFirst w b n L (what, x) (.returned (.bool false)) w2 from ⟨by rw [decide_eq_false h0], hK2, hg⟩)
    clear hK hT2 hK2 hg hq hx hct h0 h1
    go_enter Tryz.func61, Tryz.ntmps61
    go_wp2_with fail
    go_region
    all_goals
      go_wp2
      go_ret
      exact HF.out
end Go.Proofs.YthfcjlndaajkfaaGreat
namespace Go.Proofs.YthfcjlndaajkfaaGreat
open Go.RowKit
namespace Ed
/-- What no two places may have alike, in order. -/
def keys (l : List Pl) : List (Int × Int) := l.flatMap fun p => ((0 : Int), p.id) :: (fl p.ps).map fun x => ((1 : Int), x)
theorem keys_perm : ∀ l : List Pl, (keys l).Perm ((l.map (·.id)).map (fun x => ((0 : Int), x)) ++ ((l.map fun p => fl p.ps).flatten).map fun x => ((1 : Int), x))
  | [] => .nil
  | p :: r => by
    have ih := keys_perm r
    have e : keys (p :: r) = ((0 : Int), p.id) :: ((fl p.ps).map (fun x => ((1 : Int), x)) ++ keys r) := by unfold keys; rw [List.flatMap_cons]; rfl
    rw [e]
    simp only [List.map_cons, List.flatten_cons, List.map_append, List.cons_append]
    refine List.Perm.cons _ ?_
    refine (ih.append_left _).trans ?_
    exact List.perm_append_comm_assoc _ _ _
theorem nodup_tag {l : List Int} {t : Int} : (l.map fun x => (t, x)).Nodup ↔ l.Nodup := by
  constructor
  · intro h
    rw [List.nodup_iff_pairwise_ne, List.pairwise_map] at h
    exact h.imp (fun hne e => hne (by rw [e]))
  · intro h
    rw [List.nodup_iff_pairwise_ne, List.pairwise_map]
    exact h.imp (fun hne e => hne (by injection e))
theorem keys_nodup (l : List Pl) : (keys l).Nodup ↔ (l.map (·.id)).Nodup ∧ ((l.map fun p => fl p.ps).flatten).Nodup := by
  rw [(keys_perm l).nodup_iff, List.nodup_append, nodup_tag, nodup_tag]
  constructor
  · exact fun h => ⟨h.1, h.2.1⟩
  · refine fun h => ⟨h.1, h.2, fun a ha b hb e => ?_⟩
    obtain ⟨x, _, rfl⟩ := List.mem_map.1 ha
    obtain ⟨y, _, rfl⟩ := List.mem_map.1 hb
    injection e with e _
    cases e
theorem keys_snoc {l : List Pl} {k : Nat} {p : Pl} (h : l[k]? = some p) : keys (l.take (k + 1)) = keys (l.take k) ++ (((0 : Int), p.id) :: (fl p.ps).map fun x => ((1 : Int), x)) := by
  unfold keys
  rw [List.take_add_one, h, List.flatMap_append]
  simp
theorem keys_prefix (l : List Pl) (k : Nat) : keys (l.take k) <+: keys l := by
  refine ⟨keys (l.drop k), ?_⟩
  unfold keys
  rw [← List.flatMap_append, List.take_append_drop]
/-- A key that stands there already: not all are unlike. -/
theorem keys_twice {l : List Pl} {k : Nat} {p : Pl} {L rest : List (Int × Int)} {q : Int × Int} (h : l[k]? = some p) (e : keys (l.take k) ++ (((0 : Int), p.id) :: (fl p.ps).map fun x => ((1 : Int), x)) = L ++ q :: rest) (hq : q ∈ L) : ¬ (keys l).Nodup := by
  intro hn
  obtain ⟨t, ht⟩ := keys_prefix l (k + 1)
  rw [keys_snoc h, e] at ht
  rw [← ht, List.append_assoc, List.nodup_append] at hn
  exact hn.2.2 q hq q (by simp) rfl
theorem keys_split {l : List Int} {i : Nat} {z : Int} {K : List (Int × Int)} {p0 : Int × Int} (h : l[i]? = some z) : K ++ (p0 :: l.map fun x => ((1 : Int), x)) = (K ++ [p0] ++ (l.take i).map fun x => ((1 : Int), x)) ++ ((1 : Int), z) :: ((l.drop (i + 1)).map fun x => ((1 : Int), x)) := by
  obtain ⟨hi, hg⟩ := List.getElem?_eq_some_iff.1 h
  have e : l = l.take i ++ z :: l.drop (i + 1) := by rw [← hg, ← List.drop_eq_getElem_cons hi, List.take_append_drop]
  conv => lhs; rw [e]
  simp
theorem keys_len {l : List Pl} (h : ∀ p ∈ l, p.ps.length ≤ 64) : (keys l).length ≤ l.length * 129 := by
  induction l with
  | nil => simp [keys]
  | cons p r ih =>
    have e : keys (p :: r) = (((0 : Int), p.id) :: (fl p.ps).map fun x => ((1 : Int), x)) ++ keys r := by unfold keys; rw [List.flatMap_cons]
    have h1 := ih (fun q hq => h q (List.mem_cons_of_mem _ hq))
    have h2 := h p (List.mem_cons_self ..)
    rw [e, List.length_append, List.length_cons, List.length_map, fl_len, List.length_cons]
    omega
def okU (nx : Int) (l : List Pl) : Bool := l.all (fun p => decide (p.id < nx)) && decide (keys l).Nodup
end Ed
theorem OwPl.grown {w w' : World} {base n c b : Nat} {R : Option Addr} {F : List (Ed.Pc × List (Int × Int))} (h : OwPl w base R n c F) (hg : w.grownBy w' (some b)) (hb : b < base) : OwPl w' base R n c F :=
  ⟨h.len, h.row.grown hg (.inr fun g e1 e2 => by rw [ownBlock_eq] at e2; injection e1 with e1; have := (h.row.lt g e2).1; omega), fun x hx => (h.prs x hx).grown hg (fun g e1 e2 => by injection e1 with e1; have := ((h.prs x hx).lt g e2).1; omega), h.off⟩
/-- In the midst of unlike. -/
structure Us (w wr : World) (cs : List Value) (base bs mb : Nat) (R : Option Addr) (n c : Nat) (F : List (Ed.Pc × List (Int × Int))) (L : List (Int × Int)) : Prop where
  box : Holds wr w.heap.size cs
  var : Holds wr bs [.map (some mb)]
  pl : OwPl wr base R n c F
  km : Km wr mb L.length L
  nd : L.Nodup
  bel : Below w.heap.size w wr
  ne1 : bs ≠ mb
  ne2 : mb ≠ w.heap.size
  ge : w.heap.size ≤ mb
  lt : mb < base
  few : base ≤ wr.heap.size
theorem Us.below {w wr w' : World} {cs : List Value} {base bs mb n c : Nat} {R : Option Addr} {F : List (Ed.Pc × List (Int × Int))} {L : List (Int × Int)} (h : Us w wr cs base bs mb R n c F L) (hb : Below wr.heap.size wr w') : Us w w' cs base bs mb R n c F L :=
  ⟨h.box.below hb, h.var.below hb, h.pl.below hb, h.km.below hb, h.nd, below_next h.bel hb, h.ne1, h.ne2, h.ge, h.lt, Nat.le_trans h.few hb.size⟩
theorem Us.first {w wr w' : World} {cs : List Value} {base bs mb n c : Nat} {R : Option Addr} {F : List (Ed.Pc × List (Int × Int))} {L : List (Int × Int)} {p : Int × Int} (h : Us w wr cs base bs mb R n c F L) (hk : Km w' mb (L.length + 1) (L ++ [p])) (hg : wr.grownBy w' (some mb)) (hp : p ∉ L) : Us w w' cs base bs mb R n c F (L ++ [p]) :=
  ⟨h.box.grown hg (fun e => by injection e with e; exact h.ne2 e), h.var.grown hg (fun e => by injection e with e; exact h.ne1 e.symm), h.pl.grown hg h.lt, by rw [List.length_append]; exact hk, by
    rw [List.nodup_append]
    refine ⟨h.nd, by simp, fun a ha b hb e => ?_⟩
    rw [List.mem_singleton] at hb
    subst hb; subst e
    exact hp ha, h.bel.grown hg h.bel.size (fun g e => by injection e with e; have := h.ge; omega), h.ne1, h.ne2, h.ge, h.lt, Nat.le_trans h.few hg.size⟩
theorem count_le_one {L : List (Int × Int)} (h : L.Nodup) (p : Int × Int) : L.count p ≤ 1 := List.nodup_iff_count.1 h p
end Go.Proofs.YthfcjlndaajkfaaGreat
namespace Go.Proofs.YthfcjlndaajkfaaGreat
open Go.RowKit
set_option linter.unusedVariables false
set_option maxRecDepth 100000 in
theorem enter_first (args : Array Value) (w : World) : (callFunc 61 args).run Tryz.prog w = .ok (.enter 61 args) w := run_enter Tryz.func61 (by kernel_rfl) (by kernel_rfl) args w
set_option maxRecDepth 100000 in
set_option maxHeartbeats 16000000 in
theorem punlike_any (nx sq : Int) (A : Option Addr) (n c : Nat) (B : Option Addr) (m d : Nat) (L : List (Ed.Lg × List (Int × Int))) (M : List (Pk.Tb × List (Int × Int))) (w : World) (hL : RdLs w A n L) (hM : RdTs w B m M) (hn : n ≤ 128) (hm : m ≤ 128) (hlp : ∀ x ∈ L, x.1.pn ≤ 64) (htp : ∀ x ∈ M, x.1.pn ≤ 64)
    (hq : ∀ p ∈ L.map (fun x => (Ed.loOf x).p) ++ M.map (fun x => (Ed.taOf x).p), Q64 p.id ∧ p.ps.length ≤ 64 ∧ ∀ z ∈ Ed.fl p.ps, Q64 z) :
    Calls Tryz.prog 34 #[.agg #[.int .i64 nx, .int .i64 sq, .slice A n c, .slice B m d]] w fun e w' => e = .returned (.bool (Ed.okU nx (L.map (fun x => (Ed.loOf x).p) ++ M.map (fun x => (Ed.taOf x).p)))) ∧ Below w.heap.size w w' := by
  have h1 : Below w.heap.size w (w.alloc (.cells #[.int .i64 nx, .int .i64 sq, .slice A n c, .slice B m d] 25)) := (Below.refl _ _).alloc (Nat.le_refl _) _
  have h3 : Below w.heap.size w (((w.alloc (.cells #[.int .i64 nx, .int .i64 sq, .slice A n c, .slice B m d] 25)).alloc (.map #[] 0)).alloc (.cells #[.map (some (w.heap.size + 1))] 99)) := (h1.alloc (by simp) _).alloc (by simp <;> omega) _
  have HX := Lib.hid (((Holds.new w #[.int .i64 nx, .int .i64 sq, .slice A n c, .slice B m d] 25).alloc (.map #[] 0)).alloc (.cells #[.map (some (w.heap.size + 1))] 99))
  have HV := Lib.hid (Holds.new ((w.alloc (.cells #[.int .i64 nx, .int .i64 sq, .slice A n c, .slice B m d] 25)).alloc (.map #[] 0)) #[.map (some (w.heap.size + 1))] 99)
  have HK := Lib.hid ((Km.new (w.alloc (.cells #[.int .i64 nx, .int .i64 sq, .slice A n c, .slice B m d] 25))).below (w' := (((w.alloc (.cells #[.int .i64 nx, .int .i64 sq, .slice A n c, .slice B m d] 25)).alloc (.map #[] 0)).alloc (.cells #[.map (some (w.heap.size + 1))] 99))) ((Below.refl _ _).alloc (Nat.le_refl _) _))
  have HB := Lib.hid h3
  have HP := Lib.hid (places_any nx sq A n c B m d L M (((w.alloc (.cells #[.int .i64 nx, .int .i64 sq, .slice A n c, .slice B m d] 25)).alloc (.map #[] 0)).alloc (.cells #[.map (some (w.heap.size + 1))] 99)) (hL.below h3) (hM.below h3) (by omega) (by omega) (fun x hx => by have := hlp x hx; omega) (fun x hx => by have := htp x hx; omega))
  have HS := Lib.hid (show (w.alloc (.cells #[.int .i64 nx, .int .i64 sq, .slice A n c, .slice B m d] 25)).heap.size = w.heap.size + 1 ∧ ((w.alloc (.cells #[.int .i64 nx, .int .i64 sq, .slice A n c, .slice B m d] 25)).alloc (.map #[] 0)).heap.size = w.heap.size + 2 ∧ (((w.alloc (.cells #[.int .i64 nx, .int .i64 sq, .slice A n c, .slice B m d] 25)).alloc (.map #[] 0)).alloc (.cells #[.map (some (w.heap.size + 1))] 99)).heap.size = w.heap.size + 3 by simp)
  have HQ := Lib.hid hq
  have HLen := Lib.hid (show (L.map (fun x => (Ed.loOf x).p) ++ M.map (fun x => (Ed.taOf x).p)).length ≤ 256 by rw [List.length_append, List.length_map, List.length_map, hL.len, hM.len]; omega)
  clear h1 h3 hL hM hlp htp hq
  have hmk := run_mk (w.alloc (.cells #[.int .i64 nx, .int .i64 sq, .slice A n c, .slice B m d] 25))
  generalize L.map (fun x => (Ed.loOf x).p) ++ M.map (fun x => (Ed.taOf x).p) = PL at *
  generalize hans : Ed.okU nx PL = ans
  have HA := Lib.hid hans
  clear hans
  go_enter Tryz.func34, Tryz.ntmps34
  go_upto_region 3 with fail
  clear hmk
  generalize (((w.alloc (.cells #[.int .i64 nx, .int .i64 sq, .slice A n c, .slice B m d] 25)).alloc (.map #[] 0)).alloc (.cells #[.map (some (w.heap.size + 1))] 99)) = u at *
  replace HX : Hid (Holds u w.heap.size [.int .i64 nx, .int .i64 sq, .slice A n c, .slice B m d]) := HX
  replace HV : Hid (Holds u (w.heap.size + 2) [.map (some (w.heap.size + 1))]) := Lib.hid (by have h := HV.out; rw [HS.out.2.1] at h; exact h)
  replace HK : Hid (Km u (w.heap.size + 1) 0 []) := Lib.hid (by have h := HK.out; rw [HS.out.1] at h; exact h)
  obtain ⟨x0, x1, x2, x3⟩ := HX.out.all4
  go_wp2_with fail
  refine HP.out.mono ?_
  rintro e v ⟨R, rc, F, rfl, hO, hF, hbv⟩
  have HFp := Lib.hid hF
  have HU0 := Lib.hid (show Us w v [.int .i64 nx, .int .i64 sq, .slice A n c, .slice B m d] u.heap.size (w.heap.size + 2) (w.heap.size + 1) R F.length rc F [] from ⟨HX.out.below hbv, HV.out.below hbv, hO, HK.out.below hbv, by simp, below_next HB.out hbv, by omega, by omega, by omega, by rw [HS.out.2.2]; omega, hbv.size⟩)
  clear x0 x1 x2 x3 hO hF hbv HP HX HV HK HB HS
  generalize w.heap.size + 2 = bs at *
  generalize w.heap.size + 1 = mb at *
  generalize u.heap.size = ub at *
  go_wp2_with fail
  have hmf := enter_first
  go_loopw [14] (fun ii wr => ∃ (k : Nat), k ≤ F.length ∧ ii = .int .i64 (k : Int) ∧ Hid (Us w wr [.int .i64 nx, .int .i64 sq, .slice A n c, .slice B m d] ub bs mb R F.length rc F (Ed.keys (PL.take k))) ∧ Hid (∀ p ∈ PL.take k, p.id < nx)) (fun ii _ => F.length - (intOf ii).toNat)
  case atStart => exact ⟨0, by omega, rfl, HU0, Lib.hid (fun p hp => nomatch hp)⟩
  case round =>
    clear HU0
    obtain ⟨k, hk, rfl, HU, HI⟩ := hrel
    by_cases hlt : k < F.length
    · have hki : (k : Int) < (F.length : Int) := by omega
      have hk0 : (0 : Int) ≤ (k : Int) := by omega
      obtain ⟨y, hy⟩ : ∃ y, F[k]? = some y := ⟨_, List.getElem?_eq_getElem hlt⟩
      have HY := Lib.hid (show PL[k]? = some (Ed.plOf y) by rw [← HFp.out]; exact Ed.map_at hy)
      have HPy := Lib.hid ((HU.out.pl.prs y (List.mem_of_getElem? hy)).ok)
      obtain ⟨b, o, hR, _, hc⟩ := HU.out.pl.row.rd.2 (by omega)
      have hym : (F.map (·.1))[k]? = some y.1 := by rw [List.getElem?_map, hy]; rfl
      have e0 := hc _ _ (Pk.flatMap_at (f := Ed.Pc.cells) (s := 3) (fun _ => rfl) (j := 0) hym rfl)
      have e1 := hc _ _ (Pk.flatMap_at (f := Ed.Pc.cells) (s := 3) (fun _ => rfl) (j := 1) hym rfl)
      have e2 := hc _ _ (Pk.flatMap_at (f := Ed.Pc.cells) (s := 3) (fun _ => rfl) (j := 2) hym rfl)
      have e0 : wr.cell? ⟨b, o + k * 3, none⟩ = some (.int .i64 y.1.id) := e0
      have e1 : wr.cell? ⟨b, o + k * 3 + 1, none⟩ = some (.int .i64 y.1.ep) := e1
      have e2 : wr.cell? ⟨b, o + k * 3 + 2, none⟩ = some (.slice y.1.P y.1.pn y.1.pc) := e2
      have hymem : y ∈ F := List.mem_of_getElem? hy
      have HXB := Lib.hid (show mb < wr.heap.size from Nat.lt_of_lt_of_le HU.out.lt HU.out.few)
      clear hc hy hym
      subst hR
      obtain ⟨⟨id, ep, P, pn, pc⟩, ps⟩ := y
      dsimp only at e0 e1 e2 HPy
      replace HY : Hid (PL[k]? = some ⟨id, ep, ps⟩) := HY
      have hQ := HQ.out _ (List.mem_of_getElem? HY.out)
      have hal : Below wr.heap.size wr (wr.alloc (.cells #[.int .i64 id, .int .i64 ep, .slice P pn pc] 32)) := (Below.refl _ _).alloc (Nat.le_refl _) _
      have HX := Lib.hid (Holds.new wr #[.int .i64 id, .int .i64 ep, .slice P pn pc] 32)
      have HUa := Lib.hid (HU.out.below hal)
      have HPa := Lib.hid (HPy.out.below hal)
      have HQi := Lib.hid hQ
      have HKf := Lib.hid (show (Ed.keys (PL.take k)).length ≤ 256 * 129 from Nat.le_trans (Ed.keys_len (fun p hp => (HQ.out p (List.mem_of_mem_take hp)).2.1)) (Nat.mul_le_mul_right _ (by rw [List.length_take]; have := HLen.out; omega)))
      have hmem : ((⟨id, ep, P, pn, pc⟩ : Ed.Pc), ps) ∈ F := hymem
      clear hal hQ
      go_upto_region 6 with fail
      clear e0 e1 e2 HU HPy
      generalize (wr.alloc (.cells #[.int .i64 id, .int .i64 ep, .slice P pn pc] 32)) = wa at *
      generalize wr.heap.size = xb at *
      replace HX : Hid (Holds wa xb [.int .i64 id, .int .i64 ep, .slice P pn pc]) := HX
      have x0 := HX.out.at_ 0 rfl
      have n0 := HUa.out.box.at_ 0 rfl
      by_cases hnx : nx ≤ id
      · have HF := Lib.hid (show false = ans by
          rw [← HA.out]
          unfold Ed.okU
          have : PL.all (fun p => decide (p.id < nx)) = false := by
            rw [List.all_eq_false]
            exact ⟨_, List.mem_of_getElem? HY.out, by simp; omega⟩
          rw [this]; rfl)
        go_wp2
        go_ret
        exact ⟨by rw [← HF.out]; rfl, HUa.out.bel⟩
      · have HIn := Lib.hid (show ∀ p ∈ PL.take (k + 1), p.id < nx by
          intro p hp
          rw [List.take_add_one, HY.out] at hp
          rcases List.mem_append.1 hp with hp | hp
          · exact HI.out p hp
          · rcases List.mem_singleton.1 hp with rfl
            show id < nx
            omega)
        by_cases hin : ((0 : Int), id) ∈ Ed.keys (PL.take k)
        · have HF := Lib.hid (show false = ans by
            rw [← HA.out]
            unfold Ed.okU
            rw [decide_eq_false (Ed.keys_twice HY.out rfl hin), Bool.and_false])
          have C1 := Lib.hid (show Calls Tryz.prog 61 #[.int .i64 0, .int .i64 id, .pointer (some ⟨bs, 0, none⟩)] wa fun e w' => e = .returned (.bool false) ∧ wa.grownBy w' (some mb) by
            have h := first_any 0 id bs mb _ _ wa (HUa.out.var.at_ 0 rfl) HUa.out.ne1 HUa.out.km (by have := HKf.out; omega) (by unfold Q64; omega) HQi.out.1 (count_le_one HUa.out.nd _)
            refine h.mono fun e w' hh => ?_
            obtain ⟨h1, h2, h3⟩ := hh
            refine ⟨?_, h3⟩
            rw [h1, decide_eq_false]
            have := List.count_pos_iff.2 hin
            omega)
          clear hin
          go_wp2_with fail
          refine C1.out.mono ?_
          rintro e v1 ⟨rfl, hg⟩
          have HBf := Lib.hid (HUa.out.bel.grown hg HUa.out.bel.size (fun g e => by injection e with e; have := HUa.out.ge; omega))
          clear hg
          go_wp2
          go_ret
          exact ⟨by rw [← HF.out]; rfl, HBf.out⟩
        · have C1 := Lib.hid (show Calls Tryz.prog 61 #[.int .i64 0, .int .i64 id, .pointer (some ⟨bs, 0, none⟩)] wa fun e w' => e = .returned (.bool true) ∧ Us w w' [.int .i64 nx, .int .i64 sq, .slice A n c, .slice B m d] ub bs mb (some ⟨b, o, none⟩) F.length rc F (Ed.keys (PL.take k) ++ [((0 : Int), id)]) ∧ wa.grownBy w' (some mb) by
            have h := first_any 0 id bs mb _ _ wa (HUa.out.var.at_ 0 rfl) HUa.out.ne1 HUa.out.km (by have := HKf.out; omega) (by unfold Q64; omega) HQi.out.1 (count_le_one HUa.out.nd _)
            refine h.mono fun e w' hh => ?_
            obtain ⟨h1, h2, h3⟩ := hh
            exact ⟨by rw [h1, decide_eq_true (List.count_eq_zero.2 hin)], HUa.out.first h2 h3 hin, h3⟩)
          clear hin
          go_wp2_with fail
          refine C1.out.mono ?_
          rintro e v1 ⟨rfl, hU1, hg⟩
          have HU1 := Lib.hid hU1
          have hxm : xb ≠ mb := by have := HXB.out; omega
          have x2 := (HX.out.grown hg (fun e => by injection e with e; exact hxm e.symm)).at_ 2 rfl
          clear hU1 hg x0 n0 hxm HUa HX
          go_wp2_with fail
          clear x2
          go_loopw [33] (fun jj wr => ∃ (j : Nat), j ≤ pn ∧ jj = .int .i64 (j : Int) ∧ Hid (Us w wr [.int .i64 nx, .int .i64 sq, .slice A n c, .slice B m d] ub bs mb (some ⟨b, o, none⟩) F.length rc F (Ed.keys (PL.take k) ++ [((0 : Int), id)] ++ ((Ed.fl ps).take (j * 2)).map fun x => ((1 : Int), x)))) (fun jj _ => pn - (intOf jj).toNat)
          case atStart => exact ⟨0, by omega, rfl, Lib.hid (by have h := HU1.out; simpa using h)⟩
          case round =>
            clear HU1
            obtain ⟨j, hj, rfl, HU⟩ := hrel
            have hps : ps.length = pn := HPa.out.1.1
            have hp64 : pn ≤ 64 := by have := HQi.out.2.1; have h2 : ps.length ≤ 64 := this; omega
            by_cases hjl : j < pn
            · have hji : (j : Int) < (pn : Int) := by omega
              obtain ⟨q, hq⟩ : ∃ q, ps[j]? = some q := ⟨_, List.getElem?_eq_getElem (by omega)⟩
              obtain ⟨b2, o2, hPb, _, hc2⟩ := (HU.out.pl.prs _ hmem).rd.at_ hq
              have hPb : P = some ⟨b2, o2, none⟩ := hPb
              subst hPb
              obtain ⟨e0, e1⟩ := hc2 wr (Below.refl _ _)
              obtain ⟨f0, f1⟩ := Ed.fl_at hq
              have HF0 := Lib.hid f0
              have HF1 := Lib.hid f1
              obtain ⟨x, y⟩ := q
              dsimp only at e0 e1
              have hqx : Q64 x := HQi.out.2.2 x (List.mem_of_getElem? HF0.out)
              have hqy : Q64 y := HQi.out.2.2 y (List.mem_of_getElem? HF1.out)
              have hal : Below wr.heap.size wr (wr.alloc (.cells #[.int .i64 x, .int .i64 y] 64)) := (Below.refl _ _).alloc (Nat.le_refl _) _
              have HUb := Lib.hid (HU.out.below hal)
              have HXp := Lib.hid (Holds.new wr #[.int .i64 x, .int .i64 y] 64)
              have HXs := Lib.hid (show mb < wr.heap.size from Nat.lt_of_lt_of_le HU.out.lt HU.out.few)
              clear hc2 hq f0 f1 hal
              go_upto_region 11 with fail
              clear e0 e1 HU
              generalize (wr.alloc (.cells #[.int .i64 x, .int .i64 y] 64)) = wb at *
              generalize wr.heap.size = pb at *
              replace HXp : Hid (Holds wb pb [.int .i64 x, .int .i64 y]) := HXp
              have p0 := HXp.out.at_ 0 rfl
              have hl1 : (Ed.keys (PL.take k) ++ [((0 : Int), id)] ++ ((Ed.fl ps).take (j * 2)).map fun x => ((1 : Int), x)).length < 999000 := by
                rw [List.length_append, List.length_append, List.length_map, List.length_take, Ed.fl_len]
                have := HKf.out
                simp
                omega
              have e12 : Ed.keys (PL.take k) ++ [((0 : Int), id)] ++ ((Ed.fl ps).take (j * 2)).map (fun x => ((1 : Int), x)) ++ [((1 : Int), x)] = Ed.keys (PL.take k) ++ [((0 : Int), id)] ++ ((Ed.fl ps).take (j * 2 + 1)).map fun x => ((1 : Int), x) := by
                rw [List.take_add_one, HF0.out, List.map_append, List.append_assoc]; rfl
              have e13 : Ed.keys (PL.take k) ++ [((0 : Int), id)] ++ ((Ed.fl ps).take (j * 2 + 1)).map (fun x => ((1 : Int), x)) ++ [((1 : Int), y)] = Ed.keys (PL.take k) ++ [((0 : Int), id)] ++ ((Ed.fl ps).take ((j + 1) * 2)).map fun x => ((1 : Int), x) := by
                rw [show (j + 1) * 2 = j * 2 + 1 + 1 by omega, List.take_add_one (i := j * 2 + 1), HF1.out, List.map_append, List.append_assoc]; rfl
              have E12 := Lib.hid (And.intro e12 e13)
              have HL1 := Lib.hid hl1
              clear hl1 e12 e13
              by_cases hin : ((1 : Int), x) ∈ Ed.keys (PL.take k) ++ [((0 : Int), id)] ++ ((Ed.fl ps).take (j * 2)).map fun x => ((1 : Int), x)
              · have HF := Lib.hid (show false = ans by
                  rw [← HA.out]
                  unfold Ed.okU
                  rw [decide_eq_false (Ed.keys_twice HY.out (Ed.keys_split HF0.out) hin), Bool.and_false])
                have C1 := Lib.hid (show Calls Tryz.prog 61 #[.int .i64 1, .int .i64 x, .pointer (some ⟨bs, 0, none⟩)] wb fun e w' => e = .returned (.bool false) ∧ wb.grownBy w' (some mb) by
                  have h := first_any 1 x bs mb _ _ wb (HUb.out.var.at_ 0 rfl) HUb.out.ne1 HUb.out.km (by have := HL1.out; omega) (by unfold Q64; omega) hqx (count_le_one HUb.out.nd _)
                  refine h.mono fun e w' hh => ?_
                  obtain ⟨h1, h2, h3⟩ := hh
                  refine ⟨?_, h3⟩
                  rw [h1, decide_eq_false]
                  have := List.count_pos_iff.2 hin
                  omega)
                clear hin hqx hqy
                go_wp2_with fail
                refine C1.out.mono ?_
                rintro e v1 ⟨rfl, hg⟩
                have HBf := Lib.hid (HUb.out.bel.grown hg HUb.out.bel.size (fun g e => by injection e with e; have := HUb.out.ge; omega))
                clear hg
                go_wp2
                go_ret
                exact ⟨by rw [← HF.out]; rfl, HBf.out⟩
              · have C1 := Lib.hid (show Calls Tryz.prog 61 #[.int .i64 1, .int .i64 x, .pointer (some ⟨bs, 0, none⟩)] wb fun e w' => e = .returned (.bool true) ∧ Us w w' [.int .i64 nx, .int .i64 sq, .slice A n c, .slice B m d] ub bs mb (some ⟨b, o, none⟩) F.length rc F (Ed.keys (PL.take k) ++ [((0 : Int), id)] ++ ((Ed.fl ps).take (j * 2 + 1)).map fun x => ((1 : Int), x)) ∧ wb.grownBy w' (some mb) by
                  have h := first_any 1 x bs mb _ _ wb (HUb.out.var.at_ 0 rfl) HUb.out.ne1 HUb.out.km (by have := HL1.out; omega) (by unfold Q64; omega) hqx (count_le_one HUb.out.nd _)
                  refine h.mono fun e w' hh => ?_
                  obtain ⟨h1, h2, h3⟩ := hh
                  refine ⟨by rw [h1, decide_eq_true (List.count_eq_zero.2 hin)], ?_, h3⟩
                  have := HUb.out.first h2 h3 hin
                  rwa [E12.out.1] at this)
                clear hin hqx
                go_wp2_with fail
                refine C1.out.mono ?_
                rintro e v1 ⟨rfl, hU1, hg⟩
                have HU1 := Lib.hid hU1
                have p1 := (HXp.out.grown hg (fun e => by injection e with e; have := HXs.out; omega)).at_ 1 rfl
                clear hU1 hg p0 HUb HXp C1
                have hl2 : (Ed.keys (PL.take k) ++ [((0 : Int), id)] ++ ((Ed.fl ps).take (j * 2 + 1)).map fun x => ((1 : Int), x)).length < 999000 := by
                  rw [List.length_append, List.length_append, List.length_map, List.length_take, Ed.fl_len]
                  have := HKf.out
                  simp
                  omega
                have HL2 := Lib.hid hl2
                clear hl2
                by_cases hin : ((1 : Int), y) ∈ Ed.keys (PL.take k) ++ [((0 : Int), id)] ++ ((Ed.fl ps).take (j * 2 + 1)).map fun x => ((1 : Int), x)
                · have HF := Lib.hid (show false = ans by
                    rw [← HA.out]
                    unfold Ed.okU
                    rw [decide_eq_false (Ed.keys_twice HY.out (Ed.keys_split HF1.out) hin), Bool.and_false])
                  have C2 := Lib.hid (show Calls Tryz.prog 61 #[.int .i64 1, .int .i64 y, .pointer (some ⟨bs, 0, none⟩)] v1 fun e w' => e = .returned (.bool false) ∧ v1.grownBy w' (some mb) by
                    have h := first_any 1 y bs mb _ _ v1 (HU1.out.var.at_ 0 rfl) HU1.out.ne1 HU1.out.km (by have := HL2.out; omega) (by unfold Q64; omega) hqy (count_le_one HU1.out.nd _)
                    refine h.mono fun e w' hh => ?_
                    obtain ⟨h1, h2, h3⟩ := hh
                    refine ⟨?_, h3⟩
                    rw [h1, decide_eq_false]
                    have := List.count_pos_iff.2 hin
                    omega)
                  clear hin hqy
                  go_wp2_with fail
                  refine C2.out.mono ?_
                  rintro e v2 ⟨rfl, hg⟩
                  have HBf := Lib.hid (HU1.out.bel.grown hg HU1.out.bel.size (fun g e => by injection e with e; have := HU1.out.ge; omega))
                  clear hg
                  go_wp2
                  go_ret
                  exact ⟨by rw [← HF.out]; rfl, HBf.out⟩
                · have C2 := Lib.hid (show Calls Tryz.prog 61 #[.int .i64 1, .int .i64 y, .pointer (some ⟨bs, 0, none⟩)] v1 fun e w' => e = .returned (.bool true) ∧ Us w w' [.int .i64 nx, .int .i64 sq, .slice A n c, .slice B m d] ub bs mb (some ⟨b, o, none⟩) F.length rc F (Ed.keys (PL.take k) ++ [((0 : Int), id)] ++ ((Ed.fl ps).take ((j + 1) * 2)).map fun x => ((1 : Int), x)) by
                    have h := first_any 1 y bs mb _ _ v1 (HU1.out.var.at_ 0 rfl) HU1.out.ne1 HU1.out.km (by have := HL2.out; omega) (by unfold Q64; omega) hqy (count_le_one HU1.out.nd _)
                    refine h.mono fun e w' hh => ?_
                    obtain ⟨h1, h2, h3⟩ := hh
                    refine ⟨by rw [h1, decide_eq_true (List.count_eq_zero.2 hin)], ?_⟩
                    have := HU1.out.first h2 h3 hin
                    rwa [E12.out.2] at this)
                  clear hin hqy
                  go_wp2_with fail
                  refine C2.out.mono ?_
                  rintro e v2 ⟨rfl, hU2⟩
                  have HU2 := Lib.hid hU2
                  clear hU2 p1
                  go_wp2
                  go_roundw
                  case rel => exact ⟨j + 1, by omega, by go_num, HU2⟩
                  case measure => simp [intOf]; omega
            · have hji : ¬ (j : Int) < (pn : Int) := by omega
              have HN := Lib.hid (show Us w wr [.int .i64 nx, .int .i64 sq, .slice A n c, .slice B m d] ub bs mb (some ⟨b, o, none⟩) F.length rc F (Ed.keys (PL.take (k + 1))) by
                have h := HU.out
                rw [List.take_of_length_le (l := Ed.fl ps) (by rw [Ed.fl_len]; omega)] at h
                rw [Ed.keys_snoc HY.out]
                simpa using h)
              have hF2 : F.length ≤ 256 := by have := HLen.out; rw [← HFp.out, List.length_map] at this; exact this
              clear hjl HU
              go_wp2
              go_roundw
              case rel => exact ⟨k + 1, by omega, by go_num, HN, HIn⟩
              case measure => simp [intOf]; omega
    · have hki : ¬ (k : Int) < (F.length : Int) := by omega
      have HF := Lib.hid (show true = ans by
        have hFl : PL.length = F.length := by rw [← HFp.out, List.length_map]
        have h1 := HI.out
        have h2 := HU.out.nd
        rw [List.take_of_length_le (l := PL) (by omega)] at h1 h2
        rw [← HA.out]
        unfold Ed.okU
        rw [decide_eq_true h2, Bool.and_true, eq_comm, List.all_eq_true]
        exact fun p hp => decide_eq_true (h1 p hp))
      clear hlt
      go_wp2
      go_ret
      exact ⟨by rw [← HF.out]; rfl, HU.out.bel⟩
end Go.Proofs.YthfcjlndaajkfaaGreat
