/- edit.Places: the places of a version's files, in memory of the call's own. edit.unlike's first: is a key new? Which numbers stand twice among places: plain; what 'first' makes of memory. -/
import Derived.Test.YthfcjlndaajkfaaGreatG05
import Derived.Test.YthfcjlndaajkfaaGreatG04
import Derived.Test.YthfcjlndaajkfaaGreatG09
namespace Go.Proofs.YthfcjlndaajkfaaGreat
open Go.RowKit
set_option linter.unusedVariables false
set_option linter.unusedSimpArgs false
namespace Ed
/-- A place, with the address of its pairs. -/
structure Pc where
  id : Int
  ep : Int
  P : Option Addr
  pn : Nat
  pc : Nat
def Pc.cells (x : Pc) : List Value := [.int .i64 x.id, .int .i64 x.ep, .slice x.P x.pn x.pc]
def pflat (l : List Pc) : List Value := l.flatMap Pc.cells
def plOf (x : Pc × List (Int × Int)) : Pl := ⟨x.1.id, x.1.ep, x.2⟩
theorem pcells_one (x : Pc) : ∀ u ∈ x.cells, u.oneCell' = true := by
  intro u hu
  simp only [Pc.cells, List.mem_cons, List.not_mem_nil, or_false] at hu
  rcases hu with rfl | rfl | rfl <;> rfl
end Ed
theorem manyPl : Many 3 27 32 (.agg #[.int .i64 0, .int .i64 0, .slice none 0 0]) 40 := ⟨by kernel_rfl, Tryz.underlying27, by kernel_rfl, by decide, by decide⟩
/-- Places in memory of the call's own. -/
structure OwPl (w : World) (base : Nat) (R : Option Addr) (n c : Nat) (F : List (Ed.Pc × List (Int × Int))) : Prop where
  len : F.length = n
  row : OwnC 3 w base 32 R n c (Ed.pflat (F.map (·.1)))
  prs : ∀ x ∈ F, OwP w base x.1.P x.1.pn x.1.pc x.2
  off : ∀ x ∈ F, Off x.1.P R
theorem OwPl.below {w w' : World} {base n c : Nat} {R : Option Addr} {F : List (Ed.Pc × List (Int × Int))} (h : OwPl w base R n c F) (hb : Below w.heap.size w w') : OwPl w' base R n c F := ⟨h.len, h.row.below hb, fun x hx => (h.prs x hx).below hb, h.off⟩
theorem OwPl.more {w w' : World} {base n c c' : Nat} {R R' : Option Addr} {F : List (Ed.Pc × List (Int × Int))} {x : Ed.Pc × List (Int × Int)} (h : OwPl w base R n c F) (hg : GrewC 3 w w' base 32 R R' n c (n + 1) c' (Ed.pflat (F.map (·.1)) ++ x.1.cells)) (hP : OwP w base x.1.P x.1.pn x.1.pc x.2) (ho : Off x.1.P R) : OwPl w' base R' (n + 1) c' (F ++ [x]) := by
  have hb : blkOf R' = blkOf R ∨ blkOf R' = some w.heap.size := by have := hg.blk; rwa [ownBlock_eq, ownBlock_eq] at this
  have hG : w.grownBy w' (blkOf R) := by have := hg.grew; rwa [ownBlock_eq] at this
  have offR : ∀ Q : Option Addr, Off Q R → (∀ g, blkOf Q = some g → g < w.heap.size) → Off Q R' := fun Q hQ hl g h1 h2 => by
    rcases hb with hb | hb
    · exact hQ g h1 (hb ▸ h2)
    · rw [hb] at h2; injection h2 with h2; have := hl g h1; omega
  have hmem : ∀ y ∈ F ++ [x], y ∈ F ∨ y = x := fun y hy => by
    rcases List.mem_append.1 hy with hy | hy
    · exact .inl hy
    · exact .inr (List.mem_singleton.1 hy)
  refine ⟨by rw [List.length_append, h.len]; rfl, ?_, fun y hy => ?_, fun y hy => ?_⟩
  · have e : Ed.pflat ((F ++ [x]).map (·.1)) = Ed.pflat (F.map (·.1)) ++ x.1.cells := by unfold Ed.pflat; rw [List.map_append, List.flatMap_append]; simp
    rw [e]; exact hg.own
  · rcases hmem y hy with hy | rfl
    · exact (h.prs y hy).grown hG (fun g hg e => h.off y hy g e hg)
    · exact hP.grown hG (fun g hg e => ho g e hg)
  · rcases hmem y hy with hy | rfl
    · exact offR _ (h.off y hy) (fun g hg => ((h.prs y hy).lt g hg).2)
    · exact offR _ ho (fun g hg => (hP.lt g hg).2)
/-- What Places hands back. -/
def GivesPls (w : World) (l : List Ed.Pl) (e : Ending) (w' : World) : Prop :=
  ∃ R c F, e = .returned (.slice R F.length c) ∧ OwPl w' w.heap.size R F.length c F ∧ F.map Ed.plOf = l ∧ Below w.heap.size w w'
set_option maxRecDepth 100000 in
set_option maxHeartbeats 16000000 in
theorem places_any (nx sq : Int) (A : Option Addr) (n c : Nat) (B : Option Addr) (m d : Nat) (L : List (Ed.Lg × List (Int × Int))) (M : List (Pk.Tb × List (Int × Int))) (w : World) (hL : RdLs w A n L) (hM : RdTs w B m M) (hn : n ≤ 20000) (hm : m ≤ 20000) (hlp : ∀ x ∈ L, x.1.pn ≤ 100000) (htp : ∀ x ∈ M, x.1.pn ≤ 100000) :
    Calls Tryz.prog 8 #[.agg #[.int .i64 nx, .int .i64 sq, .slice A n c, .slice B m d]] w (GivesPls w (L.map (fun x => (Ed.loOf x).p) ++ M.map (fun x => (Ed.taOf x).p))) := by
  have hal : Below w.heap.size w (w.alloc (.cells #[.int .i64 nx, .int .i64 sq, .slice A n c, .slice B m d] 25)) := (Below.refl _ _).alloc (Nat.le_refl _) _
  have HX0 := hd_ (Holds.new w #[.int .i64 nx, .int .i64 sq, .slice A n c, .slice B m d] 25)
  have HB0 := hd_ hal
  have HRL := hd_ hL
  have HRT := hd_ hM
  have Hlp := hd_ hlp
  have Htp := hd_ htp
  have HLN := hd_ (And.intro hL.len (And.intro hM.len (And.intro hn hm)))
  clear hal hL hM hlp htp
  go_enter Tryz.func8, Tryz.ntmps8
  go_upto_region 2 with fail
  generalize (w.alloc (.cells #[.int .i64 nx, .int .i64 sq, .slice A n c, .slice B m d] 25)) = u at *
  replace HX0 : Hid (Holds u w.heap.size [.int .i64 nx, .int .i64 sq, .slice A n c, .slice B m d]) := HX0
  have HBox := hd_ HX0
  have b2 := HBox.out.at_ 2 rfl
  go_wp2_with fail
  clear b2
  go_loopw [3, 11] (fun s3 ii wr => ∃ (k : Nat) (F : List (Ed.Pc × List (Int × Int))) (R : Option Addr) (rc : Nat), k ≤ n ∧ ii = .int .i64 (k : Int) ∧ s3 = .slice R F.length rc ∧ Hid (OwPl wr u.heap.size R F.length rc F) ∧ Hid (F.map Ed.plOf = (L.take k).map (fun x => (Ed.loOf x).p)) ∧ Hid (Below u.heap.size u wr)) (fun _ ii _ => n - (intOf ii).toNat)
  case atStart => exact ⟨0, [], none, 0, by omega, rfl, rfl, hd_ ⟨rfl, OwnC.none_ _ _ _ _, (fun x hx => nomatch hx), (fun x hx => nomatch hx)⟩, hd_ rfl, hd_ (Below.refl _ _)⟩
  case round =>
    skip
    obtain ⟨k, F, R, rc, hk, rfl, rfl, HO, HF, HB⟩ := hrel
    by_cases hlt : k < n
    · have hki : (k : Int) < (n : Int) := by omega
      have hk0 : (0 : Int) ≤ (k : Int) := by omega
      obtain ⟨y, hy⟩ : ∃ y, L[k]? = some y := ⟨_, List.getElem?_eq_getElem (by rw [HRL.out.len]; exact hlt)⟩
      obtain ⟨b, o, hAb, _, hp, hc⟩ := HRL.out.four hy
      have HY := hd_ hy
      have hpn := Hlp.out y (List.mem_of_getElem? hy)
      have hyF := hd_ (show F.length ≤ 50000 by
        have h := congrArg List.length HF.out
        simp only [List.length_map, List.length_append, List.length_take] at h
        have := HLN.out
        omega)
      clear hy
      subst hAb
      obtain ⟨⟨id, ep, P, pn, pc, se⟩, ps⟩ := y
      dsimp only at hc hp hpn HY
      obtain ⟨e0, e1, e2, e3⟩ := hc wr (below_next HB0.out HB.out)
      have HP := hd_ (hp.below (below_next HB0.out HB.out))
      clear hc hp
      have hal : Below wr.heap.size wr (wr.alloc (.cells #[.int .i64 id, .int .i64 ep, .slice P pn pc, .int .i64 se] 62)) := (Below.refl _ _).alloc (Nat.le_refl _) _
      have HX := hd_ (Holds.new wr #[.int .i64 id, .int .i64 ep, .slice P pn pc, .int .i64 se] 62)
      have HOa := hd_ (HO.out.below hal)
      have HPa := hd_ (HP.out.below hal)
      have HBa := hd_ (below_next HB.out hal)
      clear hal
      go_upto_region 5 with fail
      clear e0 e1 e2 e3 HO HP HB
      generalize (wr.alloc (.cells #[.int .i64 id, .int .i64 ep, .slice P pn pc, .int .i64 se] 62)) = wa at *
      generalize wr.heap.size = xb at *
      replace HX : Hid (Holds wa xb [.int .i64 id, .int .i64 ep, .slice P pn pc, .int .i64 se]) := HX
      have x0 := HX.out.at_ 0 rfl
      have x1 := HX.out.at_ 1 rfl
      have x2 := HX.out.at_ 2 rfl
      have HC := hd_ (ownplace_any id ep P pn pc ps wa HPa.out.1 hpn)
      go_wp2_with fail
      refine HC.out.mono ?_
      rintro e v ⟨P2, d2, rfl, hO, hbv⟩
      have HN := hd_ (show OwP v wa.heap.size P2 pn d2 ps from ⟨HPa.out.1.1, hO⟩)
      have HOv := hd_ (HOa.out.below hbv)
      have HBv := hd_ (below_next HBa.out hbv)
      have hav := hbv.size
      have HRlt := hd_ (fun g (hg : blkOf R = some g) => (HOa.out.row.lt g hg).2)
      clear x0 x1 x2 hO hbv HOa
      have hal : Below v.heap.size v (v.alloc (.cells #[.int .i64 id, .int .i64 ep, .slice P2 pn d2] 32)) := (Below.refl _ _).alloc (Nat.le_refl _) _
      have HNa := hd_ (HN.out.below hal)
      have HOb := hd_ (HOv.out.below hal)
      have HBb := hd_ (below_next HBv.out hal)
      have HRn := hd_ (rdc_new 3 v 32 [.int .i64 id, .int .i64 ep, .slice P2 pn d2] 1 rfl (0, 0))
      have hsz : u.heap.size ≤ wa.heap.size := HBa.out.size
      clear hal
      go_wp2_with (at_builtin; refine wpList_appC manyPl rfl (.tmp 15) (.tmp 19) rfl rfl HOb.out.row ⟨v.heap.size, 0, none⟩ 1 1 [.int .i64 id, .int .i64 ep, .slice P2 pn d2] (Ed.pcells_one ⟨id, ep, P2, pn, d2⟩) rfl HRn.out (by have := hyF.out; omega) HBb.out.size ?_; intro R4 c4 v4 hg4; have HG4 := hd_ hg4; clear hg4)
      have HO4 := hd_ (HOb.out.more (x := (⟨id, ep, P2, pn, d2⟩, ps)) HG4.out (HNa.out.base_ hsz) (fun g h1 h2 => by have := (HNa.out.lt g h1).1; have := HRlt.out g h2; omega))
      have HB4 := hd_ (HBb.out.grown HG4.out.grew HBb.out.size (fun g hg => by rw [ownBlock_eq] at hg; exact (HOb.out.row.lt g hg).1))
      have HF4 := hd_ (show (F ++ [((⟨id, ep, P2, pn, d2⟩ : Ed.Pc), ps)]).map Ed.plOf = (L.take (k + 1)).map (fun x => (Ed.loOf x).p) by
        rw [List.map_append, HF.out, List.take_add_one, HY.out, List.map_append]
        rfl)
      go_roundw
      case rel => exact ⟨k + 1, F ++ [((⟨id, ep, P2, pn, d2⟩ : Ed.Pc), ps)], R4, c4, by omega, by go_num, by rw [List.length_append]; rfl, by rw [List.length_append]; exact HO4, HF4, HB4⟩
      case measure => simp [intOf]; omega
    · have hki : ¬ (k : Int) < (n : Int) := by omega
      have hkn : n = k := by omega
      clear hlt hk
      subst hkn
      have HO1 := HO
      have HB1 := HB
      have HF1 := hd_ (show F.map Ed.plOf = L.map (fun x => (Ed.loOf x).p) ++ (M.take 0).map (fun x => (Ed.taOf x).p) by
        have h := HF.out
        rw [List.take_of_length_le (by rw [HRL.out.len]; exact Nat.le_refl _)] at h
        rw [h]; simp)
      have b3 := (HBox.out.below HB.out).at_ 3 rfl
      clear HO HB HF
      obtain ⟨F0, hF0⟩ : ∃ F0, F0 = F := ⟨F, rfl⟩
      subst hF0
      obtain ⟨R0, hR0⟩ : ∃ R0, R0 = R := ⟨R, rfl⟩
      subst hR0
      obtain ⟨rc0, hrc0⟩ : ∃ rc0, rc0 = rc := ⟨rc, rfl⟩
      subst hrc0
      go_wp2_with fail
      clear b3
      go_loopw [3, 25] (fun s3 ii wr => ∃ (k : Nat) (F : List (Ed.Pc × List (Int × Int))) (R : Option Addr) (rc : Nat), k ≤ m ∧ ii = .int .i64 (k : Int) ∧ s3 = .slice R F.length rc ∧ Hid (OwPl wr u.heap.size R F.length rc F) ∧ Hid (F.map Ed.plOf = L.map (fun x => (Ed.loOf x).p) ++ (M.take k).map (fun x => (Ed.taOf x).p)) ∧ Hid (Below u.heap.size u wr)) (fun _ ii _ => m - (intOf ii).toNat)
      case atStart => exact ⟨0, F0, R0, rc0, by omega, rfl, rfl, HO1, HF1, HB1⟩
      case round =>
        clear HO1 HF1 HB1
        obtain ⟨k, F, R, rc, hk, rfl, rfl, HO, HF, HB⟩ := hrel
        by_cases hlt : k < m
        · have hki : (k : Int) < (m : Int) := by omega
          have hk0 : (0 : Int) ≤ (k : Int) := by omega
          obtain ⟨y, hy⟩ : ∃ y, M[k]? = some y := ⟨_, List.getElem?_eq_getElem (by rw [HRT.out.len]; exact hlt)⟩
          obtain ⟨b, o, hAb, _, hp, hc⟩ := HRT.out.nine hy
          have HY := hd_ hy
          have hpn := Htp.out y (List.mem_of_getElem? hy)
          have hyF := hd_ (show F.length ≤ 50000 by
            have h := congrArg List.length HF.out
            simp only [List.length_map, List.length_append, List.length_take] at h
            have := HLN.out
            omega)
          clear hy
          subst hAb
          obtain ⟨⟨id, ep, P, pn, pc, sz, lv, ct, lo, hi, tp⟩, ps⟩ := y
          dsimp only at hc hp hpn HY
          obtain ⟨e0, e1, e2, e3, e4, e5, e6, e7, e8⟩ := hc wr (below_next HB0.out HB.out)
          have HP := hd_ (hp.below (below_next HB0.out HB.out))
          clear hc hp
          have hal : Below wr.heap.size wr (wr.alloc (.cells #[.int .i64 id, .int .i64 ep, .slice P pn pc, .int .i64 sz, .int .i64 lv, .int .i64 ct, .string lo, .string hi, .int .i64 tp] 35)) := (Below.refl _ _).alloc (Nat.le_refl _) _
          have HX := hd_ (Holds.new wr #[.int .i64 id, .int .i64 ep, .slice P pn pc, .int .i64 sz, .int .i64 lv, .int .i64 ct, .string lo, .string hi, .int .i64 tp] 35)
          have HOa := hd_ (HO.out.below hal)
          have HPa := hd_ (HP.out.below hal)
          have HBa := hd_ (below_next HB.out hal)
          clear hal
          go_upto_region 10 with fail
          clear e0 e1 e2 e3 e4 e5 e6 e7 e8 HO HP HB
          generalize (wr.alloc (.cells #[.int .i64 id, .int .i64 ep, .slice P pn pc, .int .i64 sz, .int .i64 lv, .int .i64 ct, .string lo, .string hi, .int .i64 tp] 35)) = wa at *
          generalize wr.heap.size = xb at *
          replace HX : Hid (Holds wa xb [.int .i64 id, .int .i64 ep, .slice P pn pc, .int .i64 sz, .int .i64 lv, .int .i64 ct, .string lo, .string hi, .int .i64 tp]) := HX
          have x0 := HX.out.at_ 0 rfl
          have x1 := HX.out.at_ 1 rfl
          have x2 := HX.out.at_ 2 rfl
          have HC := hd_ (ownplace_any id ep P pn pc ps wa HPa.out.1 hpn)
          go_wp2_with fail
          refine HC.out.mono ?_
          rintro e v ⟨P2, d2, rfl, hO, hbv⟩
          have HN := hd_ (show OwP v wa.heap.size P2 pn d2 ps from ⟨HPa.out.1.1, hO⟩)
          have HOv := hd_ (HOa.out.below hbv)
          have HBv := hd_ (below_next HBa.out hbv)
          have hav := hbv.size
          have HRlt := hd_ (fun g (hg : blkOf R = some g) => (HOa.out.row.lt g hg).2)
          clear x0 x1 x2 hO hbv HOa
          have hal : Below v.heap.size v (v.alloc (.cells #[.int .i64 id, .int .i64 ep, .slice P2 pn d2] 32)) := (Below.refl _ _).alloc (Nat.le_refl _) _
          have HNa := hd_ (HN.out.below hal)
          have HOb := hd_ (HOv.out.below hal)
          have HBb := hd_ (below_next HBv.out hal)
          have HRn := hd_ (rdc_new 3 v 32 [.int .i64 id, .int .i64 ep, .slice P2 pn d2] 1 rfl (0, 0))
          have hsz : u.heap.size ≤ wa.heap.size := HBa.out.size
          clear hal
          go_wp2_with (at_builtin; refine wpList_appC manyPl rfl (.tmp 29) (.tmp 33) rfl rfl HOb.out.row ⟨v.heap.size, 0, none⟩ 1 1 [.int .i64 id, .int .i64 ep, .slice P2 pn d2] (Ed.pcells_one ⟨id, ep, P2, pn, d2⟩) rfl HRn.out (by have := hyF.out; omega) HBb.out.size ?_; intro R4 c4 v4 hg4; have HG4 := hd_ hg4; clear hg4)
          have HO4 := hd_ (HOb.out.more (x := (⟨id, ep, P2, pn, d2⟩, ps)) HG4.out (HNa.out.base_ hsz) (fun g h1 h2 => by have := (HNa.out.lt g h1).1; have := HRlt.out g h2; omega))
          have HB4 := hd_ (HBb.out.grown HG4.out.grew HBb.out.size (fun g hg => by rw [ownBlock_eq] at hg; exact (HOb.out.row.lt g hg).1))
          have HF4 := hd_ (show (F ++ [((⟨id, ep, P2, pn, d2⟩ : Ed.Pc), ps)]).map Ed.plOf = L.map (fun x => (Ed.loOf x).p) ++ (M.take (k + 1)).map (fun x => (Ed.taOf x).p) by
            rw [List.map_append, HF.out, List.take_add_one, HY.out, List.map_append]
            rw [List.append_assoc]
            rfl)
          go_roundw
          case rel => exact ⟨k + 1, F ++ [((⟨id, ep, P2, pn, d2⟩ : Ed.Pc), ps)], R4, c4, by omega, by go_num, by rw [List.length_append]; rfl, by rw [List.length_append]; exact HO4, HF4, HB4⟩
          case measure => simp [intOf]; omega
        · have hki : ¬ (k : Int) < (m : Int) := by omega
          have hkn : m = k := by omega
          clear hlt hk
          subst hkn
          have HE := hd_ (show GivesPls w (L.map (fun x => (Ed.loOf x).p) ++ M.map (fun x => (Ed.taOf x).p)) (.returned (.slice R F.length rc)) wr from
            ⟨R, rc, F, rfl, ⟨HO.out.len, HO.out.row.base_ HB0.out.size, fun x hx => (HO.out.prs x hx).base_ HB0.out.size, HO.out.off⟩, by
              have h := HF.out
              rwa [List.take_of_length_le (by rw [HRT.out.len]; exact Nat.le_refl _)] at h, below_next HB0.out HB.out⟩)
          go_wp2_with fail
          go_ret
          exact HE.out
end Go.Proofs.YthfcjlndaajkfaaGreat
namespace Go.Proofs.YthfcjlndaajkfaaGreat
open Go.RowKit
theorem turned_grown {w w' : World} {b : Nat} (h : w.mapTurned w' b) : w.grownBy w' (some b) := by
  obtain ⟨es, ck, es', ck', _, rfl⟩ := h
  exact ⟨rfl, rfl, rfl, by simp [Go.ChangeMaps.setBlock], fun k _ hne => setBlock_other (fun e => hne (by rw [e]))⟩
/-- What 'first' tells, and what it makes of its map. -/
def GivesFirst (w : World) (b n : Nat) (L : List (Int × Int)) (p : Int × Int) (e : Ending) (w' : World) : Prop :=
  e = .returned (.bool (decide (L.count p = 0))) ∧ Km w' b (n + 1) (L ++ [p]) ∧ w.grownBy w' (some b)
set_option maxRecDepth 100000 in
set_option maxHeartbeats 4000000 in
theorem first_any (what x : Int) (bs b n : Nat) (L : List (Int × Int)) (w : World) (hc : w.cell? ⟨bs, 0, none⟩ = some (.map (some b))) (hne : bs ≠ b) (hK : Km w b n L) (hn : n < 1000000) (hq : Q64 what) (hx : Q64 x) (hct : L.count (what, x) ≤ 1) :
    Calls Tryz.prog 61 #[.int .i64 what, .int .i64 x, .pointer (some ⟨bs, 0, none⟩)] w (GivesFirst w b n L (what, x)) := by
  have hcd : w.drew.cell? ⟨bs, 0, none⟩ = some (.map (some b)) := hc
  have HQ := hd_ (And.intro hq hx)
  by_cases h0 : L.count (what, x) = 0
  · obtain ⟨st, w1, w2, m1, m2, m3, hK2, hT2⟩ := hK.drew.entry0 hn hq hx h0
    have hlk := hK.drew.look hq hx
    rw [h0] at hlk
    have hlk2 := hK2.look hq hx
    rw [count_snoc, h0, if_pos ⟨rfl, rfl⟩] at hlk2
    have hg : w.grownBy w2 (some b) := (show w.grownBy w.drew (some b) from ⟨rfl, rfl, rfl, Nat.le_refl _, fun _ _ _ => rfl⟩).trans (turned_grown hT2)
    have hc2 : w2.cell? ⟨bs, 0, none⟩ = some (.map (some b)) := (World.grownBy.cell_far hg ⟨bs, 0, none⟩ (block_lt_of_cell hc) (fun e => hne (by injection e))).trans hc
    have HF := hd_ (show GivesFirst w b n L (what, x) (.returned (.bool true)) w2 from ⟨by rw [decide_eq_true h0], hK2, hg⟩)
    clear hK hT2 hK2 hg hq hx hct h0
    go_enter Tryz.func61, Tryz.ntmps61
    go_wp2_with fail
    go_region
    all_goals
      go_wp2
      go_ret
      exact HF.out
  · have h1 : L.count (what, x) = 1 := by omega
    obtain ⟨st, w1, w2, m1, m2, m3, hK2, hT2⟩ := hK.drew.entry1 hn hq hx h1
    have hlk := hK.drew.look hq hx
    rw [h1] at hlk
    have hlk2 := hK2.look hq hx
    rw [count_snoc, h1, if_pos ⟨rfl, rfl⟩] at hlk2
    have hg : w.grownBy w2 (some b) := (show w.grownBy w.drew (some b) from ⟨rfl, rfl, rfl, Nat.le_refl _, fun _ _ _ => rfl⟩).trans (turned_grown hT2)
    have hc2 : w2.cell? ⟨bs, 0, none⟩ = some (.map (some b)) := (World.grownBy.cell_far hg ⟨bs, 0, none⟩ (block_lt_of_cell hc) (fun e => hne (by injection e))).trans hc
    have HF := hd_ (show GivesFirst w b n L (what, x) (.returned (.bool false)) w2 from ⟨by rw [decide_eq_false h0], hK2, hg⟩)
    clear hK hT2 hK2 hg hq hx hct h0 h1
    go_enter Tryz.func61, Tryz.ntmps61
    go_wp2_with fail
    go_region
    all_goals
      go_wp2
      go_ret
      exact HF.out
end Go.Proofs.YthfcjlndaajkfaaGreat
namespace Go.Proofs.YthfcjlndaajkfaaGreat
open Go.RowKit
namespace Ed
/-- What no two places may have alike, in order. -/
def keys (l : List Pl) : List (Int × Int) := l.flatMap fun p => ((0 : Int), p.id) :: (fl p.ps).map fun x => ((1 : Int), x)
theorem keys_perm : ∀ l : List Pl, (keys l).Perm ((l.map (·.id)).map (fun x => ((0 : Int), x)) ++ ((l.map fun p => fl p.ps).flatten).map fun x => ((1 : Int), x))
  | [] => .nil
  | p :: r => by
    have ih := keys_perm r
    have e : keys (p :: r) = ((0 : Int), p.id) :: ((fl p.ps).map (fun x => ((1 : Int), x)) ++ keys r) := by unfold keys; rw [List.flatMap_cons]; rfl
    rw [e]
    simp only [List.map_cons, List.flatten_cons, List.map_append, List.cons_append]
    refine List.Perm.cons _ ?_
    refine (ih.append_left _).trans ?_
    exact List.perm_append_comm_assoc _ _ _
theorem nodup_tag {l : List Int} {t : Int} : (l.map fun x => (t, x)).Nodup ↔ l.Nodup := by
  constructor
  · intro h
    rw [List.nodup_iff_pairwise_ne, List.pairwise_map] at h
    exact h.imp (fun hne e => hne (by rw [e]))
  · intro h
    rw [List.nodup_iff_pairwise_ne, List.pairwise_map]
    exact h.imp (fun hne e => hne (by injection e))
theorem keys_nodup (l : List Pl) : (keys l).Nodup ↔ (l.map (·.id)).Nodup ∧ ((l.map fun p => fl p.ps).flatten).Nodup := by
  rw [(keys_perm l).nodup_iff, List.nodup_append, nodup_tag, nodup_tag]
  constructor
  · exact fun h => ⟨h.1, h.2.1⟩
  · refine fun h => ⟨h.1, h.2, fun a ha b hb e => ?_⟩
    obtain ⟨x, _, rfl⟩ := List.mem_map.1 ha
    obtain ⟨y, _, rfl⟩ := List.mem_map.1 hb
    injection e with e _
    cases e
theorem keys_snoc {l : List Pl} {k : Nat} {p : Pl} (h : l[k]? = some p) : keys (l.take (k + 1)) = keys (l.take k) ++ (((0 : Int), p.id) :: (fl p.ps).map fun x => ((1 : Int), x)) := by
  unfold keys
  rw [List.take_add_one, h, List.flatMap_append]
  simp
theorem keys_prefix (l : List Pl) (k : Nat) : keys (l.take k) <+: keys l := by
  refine ⟨keys (l.drop k), ?_⟩
  unfold keys
  rw [← List.flatMap_append, List.take_append_drop]
/-- A key that stands there already: not all are unlike. -/
theorem keys_twice {l : List Pl} {k : Nat} {p : Pl} {L rest : List (Int × Int)} {q : Int × Int} (h : l[k]? = some p) (e : keys (l.take k) ++ (((0 : Int), p.id) :: (fl p.ps).map fun x => ((1 : Int), x)) = L ++ q :: rest) (hq : q ∈ L) : ¬ (keys l).Nodup := by
  intro hn
  obtain ⟨t, ht⟩ := keys_prefix l (k + 1)
  rw [keys_snoc h, e] at ht
  rw [← ht, List.append_assoc, List.nodup_append] at hn
  exact hn.2.2 q hq q (by simp) rfl
theorem keys_split {l : List Int} {i : Nat} {z : Int} {K : List (Int × Int)} {p0 : Int × Int} (h : l[i]? = some z) : K ++ (p0 :: l.map fun x => ((1 : Int), x)) = (K ++ [p0] ++ (l.take i).map fun x => ((1 : Int), x)) ++ ((1 : Int), z) :: ((l.drop (i + 1)).map fun x => ((1 : Int), x)) := by
  obtain ⟨hi, hg⟩ := List.getElem?_eq_some_iff.1 h
  have e : l = l.take i ++ z :: l.drop (i + 1) := by rw [← hg, ← List.drop_eq_getElem_cons hi, List.take_append_drop]
  conv => lhs; rw [e]
  simp
theorem keys_len {l : List Pl} (h : ∀ p ∈ l, p.ps.length ≤ 64) : (keys l).length ≤ l.length * 129 := by
  induction l with
  | nil => simp [keys]
  | cons p r ih =>
    have e : keys (p :: r) = (((0 : Int), p.id) :: (fl p.ps).map fun x => ((1 : Int), x)) ++ keys r := by unfold keys; rw [List.flatMap_cons]
    have h1 := ih (fun q hq => h q (List.mem_cons_of_mem _ hq))
    have h2 := h p (List.mem_cons_self ..)
    rw [e, List.length_append, List.length_cons, List.length_map, fl_len, List.length_cons]
    omega
def okU (nx : Int) (l : List Pl) : Bool := l.all (fun p => decide (p.id < nx)) && decide (keys l).Nodup
end Ed
theorem OwPl.grown {w w' : World} {base n c b : Nat} {R : Option Addr} {F : List (Ed.Pc × List (Int × Int))} (h : OwPl w base R n c F) (hg : w.grownBy w' (some b)) (hb : b < base) : OwPl w' base R n c F :=
  ⟨h.len, h.row.grown hg (.inr fun g e1 e2 => by rw [ownBlock_eq] at e2; injection e1 with e1; have := (h.row.lt g e2).1; omega), fun x hx => (h.prs x hx).grown hg (fun g e1 e2 => by injection e1 with e1; have := ((h.prs x hx).lt g e2).1; omega), h.off⟩
/-- In the midst of unlike. -/
structure Us (w wr : World) (cs : List Value) (base bs mb : Nat) (R : Option Addr) (n c : Nat) (F : List (Ed.Pc × List (Int × Int))) (L : List (Int × Int)) : Prop where
  box : Holds wr w.heap.size cs
  var : Holds wr bs [.map (some mb)]
  pl : OwPl wr base R n c F
  km : Km wr mb L.length L
  nd : L.Nodup
  bel : Below w.heap.size w wr
  ne1 : bs ≠ mb
  ne2 : mb ≠ w.heap.size
  ge : w.heap.size ≤ mb
  lt : mb < base
  few : base ≤ wr.heap.size
theorem Us.below {w wr w' : World} {cs : List Value} {base bs mb n c : Nat} {R : Option Addr} {F : List (Ed.Pc × List (Int × Int))} {L : List (Int × Int)} (h : Us w wr cs base bs mb R n c F L) (hb : Below wr.heap.size wr w') : Us w w' cs base bs mb R n c F L :=
  ⟨h.box.below hb, h.var.below hb, h.pl.below hb, h.km.below hb, h.nd, below_next h.bel hb, h.ne1, h.ne2, h.ge, h.lt, Nat.le_trans h.few hb.size⟩
theorem Us.first {w wr w' : World} {cs : List Value} {base bs mb n c : Nat} {R : Option Addr} {F : List (Ed.Pc × List (Int × Int))} {L : List (Int × Int)} {p : Int × Int} (h : Us w wr cs base bs mb R n c F L) (hk : Km w' mb (L.length + 1) (L ++ [p])) (hg : wr.grownBy w' (some mb)) (hp : p ∉ L) : Us w w' cs base bs mb R n c F (L ++ [p]) :=
  ⟨h.box.grown hg (fun e => by injection e with e; exact h.ne2 e), h.var.grown hg (fun e => by injection e with e; exact h.ne1 e.symm), h.pl.grown hg h.lt, by rw [List.length_append]; exact hk, by
    rw [List.nodup_append]
    refine ⟨h.nd, by simp, fun a ha b hb e => ?_⟩
    rw [List.mem_singleton] at hb
    subst hb; subst e
    exact hp ha, h.bel.grown hg h.bel.size (fun g e => by injection e with e; have := h.ge; omega), h.ne1, h.ne2, h.ge, h.lt, Nat.le_trans h.few hg.size⟩
theorem count_le_one {L : List (Int × Int)} (h : L.Nodup) (p : Int × Int) : L.count p ≤ 1 := List.nodup_iff_count.1 h p
end Go.Proofs.YthfcjlndaajkfaaGreat
