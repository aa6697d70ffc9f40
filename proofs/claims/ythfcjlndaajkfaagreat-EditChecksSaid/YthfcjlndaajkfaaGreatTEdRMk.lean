/- The document's Places: the places of a version's files. The document's Make: the edits that make a version. -/
import Derived.Test.YthfcjlndaajkfaaGreatG20
import Derived.Test.YthfcjlndaajkfaaGreatTEdLEd
import Derived.Test.YthfcjlndaajkfaaGreatTEdMk
import Derived.Test.YthfcjlndaajkfaaGreatTEdIs
import Derived.Test.YthfcjlndaajkfaaGreatTHeldS
namespace Go.Proofs.YthfcjlndaajkfaaGreat
open Go.RowKit
set_option linter.unusedVariables false
set_option linter.unusedSimpArgs false
def Ed.lpc (x : Ed.Lg × List (Int × Int)) : Ed.Pc := ⟨x.1.id, x.1.ep, x.1.P, x.1.pn, x.1.pc⟩
def Ed.tpc (x : Pk.Tb × List (Int × Int)) : Ed.Pc := ⟨x.1.id, x.1.ep, x.1.P, x.1.pn, x.1.pc⟩
/-- What the document's Places hands back. -/
def GivesRPl (w : World) (l : List Ed.Pl) (e : Ending) (w' : World) : Prop :=
  ∃ (R : Option Addr) (k c : Nat) (F : List (Ed.Pc × List (Int × Int))), e = .returned (.slice R k c) ∧ F.length = k ∧ RdC 3 w' R k (Ed.pflat (F.map (·.1))) ∧ (∀ x ∈ F, PairsOk w' x.1.P x.1.pn x.1.pc x.2) ∧ F.map Ed.plOf = l ∧ Below w.heap.size w w'
set_option maxRecDepth 100000 in
set_option maxHeartbeats 16000000 in
theorem rplaces_any (nx sq : Int) (A : Option Addr) (n c : Nat) (B : Option Addr) (m d : Nat) (L : List (Ed.Lg × List (Int × Int))) (M : List (Pk.Tb × List (Int × Int))) (w : World) (hL : RdLs w A n L) (hM : RdTs w B m M) (hn : n ≤ 20000) (hm : m ≤ 20000) :
    Calls Tryz.prog 9 #[.agg #[.int .i64 nx, .int .i64 sq, .slice A n c, .slice B m d]] w (GivesRPl w (L.map (fun x => (Ed.loOf x).p) ++ M.map (fun x => (Ed.taOf x).p))) := by
  have hbu : Below w.heap.size w (w.alloc (.cells #[.int .i64 nx, .int .i64 sq, .slice A n c, .slice B m d] 25)) := (Below.refl _ _).alloc (Nat.le_refl _) _
  have HBu := Lib.hid hbu
  have HXu := Lib.hid (Holds.new w #[.int .i64 nx, .int .i64 sq, .slice A n c, .slice B m d] 25)
  have HL1 := Lib.hid (hL.below hbu)
  have HM1 := Lib.hid (hM.below hbu)
  have hsu : (w.alloc (.cells #[.int .i64 nx, .int .i64 sq, .slice A n c, .slice B m d] 25)).heap.size = w.heap.size + 1 := by simp
  have HSu := Lib.hid hsu
  clear hL hM hbu hsu
  go_enter Tryz.func9, Tryz.ntmps9
  go_upto_region 1 with fail
  generalize (w.alloc (.cells #[.int .i64 nx, .int .i64 sq, .slice A n c, .slice B m d] 25)) = u at *
  replace HXu : Hid (Holds u w.heap.size [.int .i64 nx, .int .i64 sq, .slice A n c, .slice B m d]) := HXu
  have HXp := Lib.hid (fun (W : World) (hW : Below u.heap.size u W) => HXu.out.below hW)
  have HPr := Lib.hid (show ∀ x ∈ L.map (fun x => (Ed.lpc x, x.2)) ++ M.map (fun x => (Ed.tpc x, x.2)), PairsOk u x.1.P x.1.pn x.1.pc x.2 from fun x hx => by
    rcases List.mem_append.1 hx with hx | hx
    · obtain ⟨y, hy, rfl⟩ := List.mem_map.1 hx
      exact (HL1.out.2.2 y hy).2
    · obtain ⟨y, hy, rfl⟩ := List.mem_map.1 hx
      exact HM1.out.2 y hy)
  go_wp2_with fail
  go_loopw [3, 4] (fun s3 ii wr => ∃ (k : Nat) (R : Option Addr) (rc : Nat), k ≤ n ∧ s3 = .slice R (k) rc ∧ ii = .int .i64 (k : Int) ∧ Hid (OwnC 3 wr u.heap.size 32 R (k) rc (Ed.pflat ((L.take k).map Ed.lpc))) ∧ Hid (Below u.heap.size u wr)) (fun _ ii _ => n - (intOf ii).toNat)
  case atStart => exact ⟨0, none, 0, by omega, rfl, rfl, Lib.hid (OwnC.none_ _ _ _ _), Lib.hid (Below.refl _ _)⟩
  case round =>
    skip
    obtain ⟨k, R, rc, hk, rfl, rfl, HO, HB⟩ := hrel
    have xb := (HXp.out _ HB.out).at_ 2 rfl
    by_cases hlt : k < n
    · have hki : (k : Int) < (n : Int) := by omega
      have hk0 : (0 : Int) ≤ (k : Int) := by omega
      obtain ⟨y, hy⟩ : ∃ y, L[k]? = some y := ⟨_, List.getElem?_eq_getElem (by rw [HL1.out.len]; exact hlt)⟩
      obtain ⟨b, o, hAb, _, hp, hc⟩ := HL1.out.four hy
      have HEn := Lib.hid (show Ed.pflat ((L.take (k + 1)).map Ed.lpc) = Ed.pflat ((L.take k).map Ed.lpc) ++ [.int .i64 y.1.id, .int .i64 y.1.ep, .slice y.1.P y.1.pn y.1.pc] by rw [List.take_add_one, hy]; simp [Ed.pflat, Ed.Pc.cells, Ed.lpc, Ed.tpc])
      subst hAb
      obtain ⟨⟨id, ep, P, pn, pc, se⟩, ps⟩ := y
      obtain ⟨e0, e1, e2, e3⟩ := hc wr HB.out
      dsimp only at e0 e1 e2 e3 HEn
      clear hy hp hc
      have hal : Below wr.heap.size wr (wr.alloc (.cells #[.int .i64 id, .int .i64 ep, .slice P pn pc] 32)) := (Below.refl _ _).alloc (Nat.le_refl _) _
      have HOa := Lib.hid (HO.out.below hal)
      have HBa := Lib.hid (below_next HB.out hal)
      have HRn := Lib.hid (rdc_new 3 wr 32 [.int .i64 id, .int .i64 ep, .slice P pn pc] 1 rfl (0, 0))
      have hl1 : (k) + 1 ≤ 1000000 := by omega
      have hsz := HBa.out.size
      clear hal HO HB
      go_wp2_with (at_builtin; refine wpList_appN manyPl rfl (.tmp 13) (.tmp 20) rfl rfl HOa.out (some ⟨wr.heap.size, 0, none⟩) 1 1 [.int .i64 id, .int .i64 ep, .slice P pn pc] (Ed.pcells_one ⟨id, ep, P, pn, pc⟩) rfl HRn.out hl1 hsz ?_; intro R4 c4 v4 hg4; have HG4 := Lib.hid hg4; clear hg4)
      have HB4 := Lib.hid (HG4.out.below HBa.out hsz (fun g h => (HOa.out.blk g h).1))
      go_roundw
      case rel => exact ⟨k + 1, R4, c4, by omega, rfl, by go_num, Lib.hid (by rw [HEn.out]; exact HG4.out.own), HB4⟩
      case measure => simp [intOf]; omega
    · have hki : ¬ (k : Int) < (n : Int) := by omega
      have hkn : n = k := by omega
      have HO1 := Lib.hid (show OwnC 3 wr u.heap.size 32 R (n + 0) rc (Ed.pflat (L.map Ed.lpc ++ (M.take 0).map Ed.tpc)) by
        have h := HO.out
        rw [List.take_of_length_le (by rw [HL1.out.len]; omega), ← hkn] at h
        simpa using h)
      have HB1 := HB
      clear hlt hk
      subst hkn
      go_wp2_with fail
      clear xb hki
      go_loopw [3, 5] (fun s3 ii wr => ∃ (k : Nat) (R : Option Addr) (rc : Nat), k ≤ m ∧ s3 = .slice R (n + k) rc ∧ ii = .int .i64 (k : Int) ∧ Hid (OwnC 3 wr u.heap.size 32 R (n + k) rc (Ed.pflat (L.map Ed.lpc ++ (M.take k).map Ed.tpc))) ∧ Hid (Below u.heap.size u wr)) (fun _ ii _ => m - (intOf ii).toNat)
      case atStart => exact ⟨0, R, rc, by omega, rfl, rfl, HO1, HB1⟩
      case round =>
        clear HO1 HB1 HB HO
        obtain ⟨k, R, rc, hk, rfl, rfl, HO, HB⟩ := hrel
        have xb := (HXp.out _ HB.out).at_ 3 rfl
        by_cases hlt : k < m
        · have hki : (k : Int) < (m : Int) := by omega
          have hk0 : (0 : Int) ≤ (k : Int) := by omega
          obtain ⟨y, hy⟩ : ∃ y, M[k]? = some y := ⟨_, List.getElem?_eq_getElem (by rw [HM1.out.len]; exact hlt)⟩
          obtain ⟨b, o, hAb, _, hp, hc⟩ := HM1.out.nine hy
          have HEn := Lib.hid (show Ed.pflat (L.map Ed.lpc ++ (M.take (k + 1)).map Ed.tpc) = Ed.pflat (L.map Ed.lpc ++ (M.take k).map Ed.tpc) ++ [.int .i64 y.1.id, .int .i64 y.1.ep, .slice y.1.P y.1.pn y.1.pc] by rw [List.take_add_one, hy]; simp [Ed.pflat, Ed.Pc.cells, Ed.lpc, Ed.tpc])
          subst hAb
          obtain ⟨⟨id, ep, P, pn, pc, sz, lv, ct, lo, hi, tp⟩, ps⟩ := y
          obtain ⟨e0, e1, e2, e3, e4, e5, e6, e7, e8⟩ := hc wr HB.out
          dsimp only at e0 e1 e2 e3 e4 e5 e6 e7 e8 HEn
          clear hy hp hc
          have hal : Below wr.heap.size wr (wr.alloc (.cells #[.int .i64 id, .int .i64 ep, .slice P pn pc] 32)) := (Below.refl _ _).alloc (Nat.le_refl _) _
          have HOa := Lib.hid (HO.out.below hal)
          have HBa := Lib.hid (below_next HB.out hal)
          have HRn := Lib.hid (rdc_new 3 wr 32 [.int .i64 id, .int .i64 ep, .slice P pn pc] 1 rfl (0, 0))
          have hl1 : (n + k) + 1 ≤ 1000000 := by omega
          have hsz := HBa.out.size
          clear hal HO HB
          go_wp2_with (at_builtin; refine wpList_appN manyPl rfl (.tmp 29) (.tmp 36) rfl rfl HOa.out (some ⟨wr.heap.size, 0, none⟩) 1 1 [.int .i64 id, .int .i64 ep, .slice P pn pc] (Ed.pcells_one ⟨id, ep, P, pn, pc⟩) rfl HRn.out hl1 hsz ?_; intro R4 c4 v4 hg4; have HG4 := Lib.hid hg4; clear hg4)
          have HB4 := Lib.hid (HG4.out.below HBa.out hsz (fun g h => (HOa.out.blk g h).1))
          go_roundw
          case rel => exact ⟨k + 1, R4, c4, by omega, rfl, by go_num, Lib.hid (by rw [HEn.out]; exact HG4.out.own), HB4⟩
          case measure => simp [intOf]; omega
        · have hki : ¬ (k : Int) < (m : Int) := by omega
          have hkm : m = k := by omega
          clear hlt hk
          subst hkm
          have HE := Lib.hid (show GivesRPl w (L.map (fun x => (Ed.loOf x).p) ++ M.map (fun x => (Ed.taOf x).p)) (.returned (.slice R (n + m) rc)) wr from
            ⟨R, n + m, rc, L.map (fun x => (Ed.lpc x, x.2)) ++ M.map (fun x => (Ed.tpc x, x.2)), rfl, by rw [List.length_append, List.length_map, List.length_map, HL1.out.len, HM1.out.len], by
              have h := HO.out.rd
              rw [List.take_of_length_le (by rw [HM1.out.len]; exact Nat.le_refl _)] at h
              rw [List.map_append, List.map_map, List.map_map]
              exact h, fun x hx => (HPr.out x hx).below HB.out, by rw [List.map_append, List.map_map, List.map_map]; rfl, below_next HBu.out HB.out⟩)
          go_wp2_with fail
          go_ret
          exact HE.out
end Go.Proofs.YthfcjlndaajkfaaGreat
namespace Go.Proofs.YthfcjlndaajkfaaGreat
open Go.RowKit
set_option linter.unusedVariables false
set_option linter.unusedSimpArgs false
set_option maxRecDepth 100000 in
set_option maxHeartbeats 16000000 in
theorem rmake_any (nx sq : Int) (A0 : Option Addr) (n0 c0 : Nat) (B0 : Option Addr) (m0 d0 : Nat) (L0 : List (Ed.Lg × List (Int × Int))) (M0 : List (Pk.Tb × List (Int × Int))) (w : World) (hL : RdLs w A0 n0 L0) (hM : RdTs w B0 m0 M0) (hn : n0 ≤ 9223372036854775807) (hm : m0 ≤ 9223372036854775807) :
    Calls Tryz.prog 14 #[.agg #[.int .i64 nx, .int .i64 sq, .slice A0 n0 c0, .slice B0 m0 d0]] w (GivesMk w (⟨nx, sq, L0.map Ed.loOf, M0.map Ed.taOf⟩ : Ed.Ve).ok (Ed.make ⟨nx, sq, L0.map Ed.loOf, M0.map Ed.taOf⟩)) := by
  have HL0 := Lib.hid hL
  have HM0 := Lib.hid hM
  have hbu : Below w.heap.size w (w.alloc (.cells #[.int .i64 nx, .int .i64 sq, .slice A0 n0 c0, .slice B0 m0 d0] 25)) := (Below.refl _ _).alloc (Nat.le_refl _) _
  have HBu := Lib.hid hbu
  have HXu := Lib.hid (Holds.new w #[.int .i64 nx, .int .i64 sq, .slice A0 n0 c0, .slice B0 m0 d0] 25)
  clear hL hM hbu
  have HOq := Lib.hid (Ed.ok_eq ⟨nx, sq, L0.map Ed.loOf, M0.map Ed.taOf⟩)
  have HEt := Lib.hid (fun (ho : (⟨nx, sq, L0.map Ed.loOf, M0.map Ed.taOf⟩ : Ed.Ve).ok = true) => Ed.xs_et nx sq L0 M0 ho)
  dsimp only at HOq
  go_enter Tryz.func14, Tryz.ntmps14
  go_upto_region 1 with fail
  generalize (w.alloc (.cells #[.int .i64 nx, .int .i64 sq, .slice A0 n0 c0, .slice B0 m0 d0] 25)) = u at *
  replace HXu : Hid (Holds u w.heap.size [.int .i64 nx, .int .i64 sq, .slice A0 n0 c0, .slice B0 m0 d0]) := HXu
  have C := Lib.hid (ris_any nx sq A0 n0 c0 B0 m0 d0 L0 M0 u (HL0.out.below HBu.out) (HM0.out.below HBu.out) hn hm)
  have x0 := HXu.out.at_ 0 rfl
  have x1 := HXu.out.at_ 1 rfl
  have x2 := HXu.out.at_ 2 rfl
  have x3 := HXu.out.at_ 3 rfl
  generalize Ed.make ⟨nx, sq, L0.map Ed.loOf, M0.map Ed.taOf⟩ = mk at *
  generalize (⟨nx, sq, L0.map Ed.loOf, M0.map Ed.taOf⟩ : Ed.Ve).ok = okb at *
  cases okb with
  | false =>
    go_wp2_with fail
    refine C.out.mono ?_
    rintro e v ⟨rfl, hbv⟩
    have HBv := Lib.hid (below_next HBu.out hbv)
    clear x0 x1 x2 x3 HXu hbv HBu C HEt HOq
    go_wp2
    go_ret
    exact ⟨HBv.out, fun _ => rfl, fun h => Bool.noConfusion h⟩
  | true =>
  go_wp2_with fail
  refine C.out.mono ?_
  rintro e v ⟨rfl, hbv⟩
  have HXq := Lib.hid (HXu.out.below hbv)
  have HBv := Lib.hid (below_next HBu.out hbv)
  have HE1 := Lib.hid (HEt.out (by trivial))
  have HL1 := Lib.hid (HL0.out.below HBv.out)
  have HM1 := Lib.hid (HM0.out.below HBv.out)
  have hO := HOq.out.symm
  simp only [Bool.and_eq_true, decide_eq_true_eq, List.length_map] at hO
  have hl32 := hO.1.1.1.1.1.2
  have hm128 := hO.1.1.1.1.2
  have hn32 : n0 ≤ 32 := by rw [← HL0.out.len]; exact hl32
  have hm12 : m0 ≤ 128 := by rw [← HM0.out.len]; exact hm128
  have HSe := Lib.hid (fun (y : Ed.Lg × List (Int × Int)) (hy : y ∈ L0) => show y.1.se = -1 ∨ (0 ≤ y.1.se ∧ y.1.se ≤ 1099511627776) from (Ed.seals hO.1.1.1.2 (Ed.loOf y) (List.mem_map_of_mem hy)).2)
  clear x0 x1 x2 x3 HXu hbv HBu C HOq hO hl32 hm128 HEt HL0 HM0
  have HEx := Lib.hid (Ed.xs_ok HL1.out HM1.out nx sq)
  have HXp := Lib.hid (fun (W : World) (hW : Below v.heap.size v W) => HXq.out.below hW)
  have x0 := HXq.out.at_ 0 rfl
  have x1 := HXq.out.at_ 1 rfl
  have hbz : Below v.heap.size v (v.alloc (.cells #[.int .i64 1, .int .i64 0, .int .i64 nx, .int .i64 0, .int .i64 0, .slice none 0 0, .int .i64 0, .int .i64 0, .slice none 0 0, .int .i64 0, .int .i64 0, .int .i64 0, .string ⟨#[]⟩, .string ⟨#[]⟩, .int .i64 0, .int .i64 2, .int .i64 0, .int .i64 sq, .int .i64 0, .int .i64 0, .slice none 0 0, .int .i64 0, .int .i64 0, .slice none 0 0, .int .i64 0, .int .i64 0, .int .i64 0, .string ⟨#[]⟩, .string ⟨#[]⟩, .int .i64 0] 37)) := (Below.refl _ _).alloc (Nat.le_refl _) _
  have HOz := Lib.hid (show OwnC 15 (v.alloc (.cells #[.int .i64 1, .int .i64 0, .int .i64 nx, .int .i64 0, .int .i64 0, .slice none 0 0, .int .i64 0, .int .i64 0, .slice none 0 0, .int .i64 0, .int .i64 0, .int .i64 0, .string ⟨#[]⟩, .string ⟨#[]⟩, .int .i64 0, .int .i64 2, .int .i64 0, .int .i64 sq, .int .i64 0, .int .i64 0, .slice none 0 0, .int .i64 0, .int .i64 0, .slice none 0 0, .int .i64 0, .int .i64 0, .int .i64 0, .string ⟨#[]⟩, .string ⟨#[]⟩, .int .i64 0] 37)) v.heap.size 37 (some ⟨v.heap.size, 0, none⟩) ([Ed.x1 nx, Ed.x2 sq] : List Ed.Ex).length 2 (Ed.eflat (([Ed.x1 nx, Ed.x2 sq] : List Ed.Ex).map (·.1))) from World.ownsRow_lit (base := v.heap.size) (e := 37) (size := 15) v #[.int .i64 1, .int .i64 0, .int .i64 nx, .int .i64 0, .int .i64 0, .slice none 0 0, .int .i64 0, .int .i64 0, .slice none 0 0, .int .i64 0, .int .i64 0, .int .i64 0, .string ⟨#[]⟩, .string ⟨#[]⟩, .int .i64 0, .int .i64 2, .int .i64 0, .int .i64 sq, .int .i64 0, .int .i64 0, .slice none 0 0, .int .i64 0, .int .i64 0, .slice none 0 0, .int .i64 0, .int .i64 0, .int .i64 0, .string ⟨#[]⟩, .string ⟨#[]⟩, .int .i64 0] 2 (Nat.le_refl _) (by simp only [maxLen]; omega) (by simp))
  have HBz := Lib.hid hbz
  clear hbz
  go_wp2_with fail
  clear x0 x1
  generalize (v.alloc (.cells #[.int .i64 1, .int .i64 0, .int .i64 nx, .int .i64 0, .int .i64 0, .slice none 0 0, .int .i64 0, .int .i64 0, .slice none 0 0, .int .i64 0, .int .i64 0, .int .i64 0, .string ⟨#[]⟩, .string ⟨#[]⟩, .int .i64 0, .int .i64 2, .int .i64 0, .int .i64 sq, .int .i64 0, .int .i64 0, .slice none 0 0, .int .i64 0, .int .i64 0, .slice none 0 0, .int .i64 0, .int .i64 0, .int .i64 0, .string ⟨#[]⟩, .string ⟨#[]⟩, .int .i64 0] 37)) = vz at *
  go_loopw [3, 4] (fun s3 ii wr => ∃ (k : Nat) (E : List Ed.Ex) (R : Option Addr) (rc : Nat), k ≤ n0 ∧ s3 = .slice R E.length rc ∧ ii = .int .i64 (k : Int) ∧ Hid (E = [Ed.x1 nx, Ed.x2 sq] ++ ((L0.take k).map Ed.xl).flatten) ∧ E.length ≤ 2 + 2 * k ∧ Hid (OwnC 15 wr v.heap.size 37 R E.length rc (Ed.eflat (E.map (·.1)))) ∧ Hid (Below v.heap.size v wr)) (fun _ ii _ => n0 - (intOf ii).toNat)
  case atStart => exact ⟨0, [Ed.x1 nx, Ed.x2 sq], some ⟨v.heap.size, 0, none⟩, 2, by omega, rfl, rfl, Lib.hid (by simp), by simp, HOz, HBz⟩
  case round =>
    clear HOz HBz
    obtain ⟨k, E, R, rc, hk, rfl, rfl, HE, hel, HO, HB⟩ := hrel
    have x2 := (HXp.out _ HB.out).at_ 2 rfl
    by_cases hlt : k < n0
    · have hki : (k : Int) < (n0 : Int) := by omega
      have hk0 : (0 : Int) ≤ (k : Int) := by omega
      obtain ⟨y, hy⟩ : ∃ y, L0[k]? = some y := ⟨_, List.getElem?_eq_getElem (by rw [HL1.out.len]; exact hlt)⟩
      obtain ⟨b, o, hAb, _, hp, hc⟩ := HL1.out.four hy
      have HEn := Lib.hid (show [Ed.x1 nx, Ed.x2 sq] ++ ((L0.take (k + 1)).map Ed.xl).flatten = E ++ Ed.xl y by rw [HE.out, List.take_add_one, hy]; simp)
      have HSy := Lib.hid (HSe.out y (List.mem_of_getElem? hy))
      subst hAb
      obtain ⟨⟨id, ep, P, pn, pc, se⟩, ps⟩ := y
      have HCq := Lib.hid hc
      obtain ⟨e0, e1, e2, e3⟩ := hc wr HB.out
      dsimp only at e0 e1 e2 e3 HCq HSy
      clear hy hp hc HE
      have hal : Below wr.heap.size wr (wr.alloc (.cells #[.int .i64 3, .int .i64 0, .int .i64 0, .int .i64 id, .int .i64 ep, .slice P pn pc, .int .i64 0, .int .i64 0, .slice none 0 0, .int .i64 0, .int .i64 0, .int .i64 0, .string ⟨#[]⟩, .string ⟨#[]⟩, .int .i64 0] 37)) := (Below.refl _ _).alloc (Nat.le_refl _) _
      have HOb := Lib.hid (HO.out.below hal)
      have HBb := Lib.hid (below_next HB.out hal)
      have hsb := HBb.out.size
      have hl1 : E.length + 1 ≤ 1000000 := by omega
      clear hal HO HB
      go_upto_region 8 with (at_builtin; refine wpList_appN manyE rfl (.tmp 23) (.tmp 31) rfl rfl HOb.out (some ⟨wr.heap.size, 0, none⟩) 1 1 [.int .i64 3, .int .i64 0, .int .i64 0, .int .i64 id, .int .i64 ep, .slice P pn pc, .int .i64 0, .int .i64 0, .slice none 0 0, .int .i64 0, .int .i64 0, .int .i64 0, .string ⟨#[]⟩, .string ⟨#[]⟩, .int .i64 0] (Ed.er_one (Ed.x3 (⟨id, ep, P, pn, pc, se⟩, ps)).1) rfl (rd_er wr (Ed.x3 (⟨id, ep, P, pn, pc, se⟩, ps)).1 37) hl1 hsb ?_; intro R4 c4 v4 hg4)
      have HBc := Lib.hid (hg4.below HBb.out hsb (fun g h => (HOb.out.blk g h).1))
      have HOc := Lib.hid (show OwnC 15 v4 v.heap.size 37 R4 (E ++ [Ed.x3 (⟨id, ep, P, pn, pc, se⟩, ps)]).length c4 (Ed.eflat ((E ++ [Ed.x3 (⟨id, ep, P, pn, pc, se⟩, ps)]).map (·.1))) from by
        have h := hg4.own
        rw [List.length_append, List.map_append]
        unfold Ed.eflat at h ⊢
        rw [List.flatMap_append]
        exact h)
      have hlc : E.length + 1 = (E ++ [Ed.x3 (⟨id, ep, P, pn, pc, se⟩, ps)]).length := by rw [List.length_append]; rfl
      clear e0 e1 e2 e3 x2 HOb HBb hsb hg4
      have x2 := (HXp.out _ HBc.out).at_ 2 rfl
      obtain ⟨e0, e1, e2, e3⟩ := HCq.out v4 HBc.out
      by_cases hse : se = -1
      · have q : ¬ (0 : Int) ≤ se := by rw [hse]; decide
        have HEm := Lib.hid (show [Ed.x1 nx, Ed.x2 sq] ++ ((L0.take (k + 1)).map Ed.xl).flatten = E ++ [Ed.x3 (⟨id, ep, P, pn, pc, se⟩, ps)] by rw [HEn.out]; unfold Ed.xl; rw [if_pos hse])
        clear hse HEn
        rw [hlc]
        go_wp2_with fail
        clear x2 e0 e1 e2 e3 q
        go_roundw
        case rel => exact ⟨k + 1, E ++ [Ed.x3 (⟨id, ep, P, pn, pc, se⟩, ps)], R4, c4, by omega, rfl, by go_num, Lib.hid HEm.out.symm, by rw [← hlc]; omega, HOc, HBc⟩
        case measure => simp [intOf]; omega
      · have q : (0 : Int) ≤ se := (HSy.out.resolve_left hse).1
        have HEm := Lib.hid (show [Ed.x1 nx, Ed.x2 sq] ++ ((L0.take (k + 1)).map Ed.xl).flatten = E ++ [Ed.x3 (⟨id, ep, P, pn, pc, se⟩, ps)] ++ [Ed.x4 (⟨id, ep, P, pn, pc, se⟩, ps)] by rw [HEn.out]; unfold Ed.xl; rw [if_neg hse, List.append_assoc]; rfl)
        clear hse HEn
        rw [hlc]
        have hl2 : (E ++ [Ed.x3 (⟨id, ep, P, pn, pc, se⟩, ps)]).length + 1 ≤ 1000000 := by omega
        have hl3 : (E ++ [Ed.x3 (⟨id, ep, P, pn, pc, se⟩, ps)]).length ≤ 3 + 2 * k := by omega
        generalize E ++ [Ed.x3 (⟨id, ep, P, pn, pc, se⟩, ps)] = E3 at *
        go_upto_region 9 with fail
        clear x2 e0 e1 e2 e3 q
        have hbd : Below v4.heap.size v4 v4.drew := (Below.refl _ _).drew
        have HBd := Lib.hid (below_next HBc.out hbd)
        have hS0 := Lib.hid (show v4.drew.cell? ⟨w.heap.size, 2, none⟩ = some (.slice (some ⟨b, o, none⟩) n0 c0) ∧ v4.drew.cell? ⟨b, o + k * 4, none⟩ = some (.int .i64 id) ∧ v4.drew.cell? ⟨b, o + k * 4 + 3, none⟩ = some (.int .i64 se) from ⟨(HXp.out _ (HBd.out)).at_ 2 rfl, (HCq.out _ (HBd.out)).1, (HCq.out _ (HBd.out)).2.2.2⟩)
        refine wp_region_T (fun W => W.cell? ⟨w.heap.size, 2, none⟩ = some (.slice (some ⟨b, o, none⟩) n0 c0) ∧ W.cell? ⟨b, o + k * 4, none⟩ = some (.int .i64 id) ∧ W.cell? ⟨b, o + k * 4 + 3, none⟩ = some (.int .i64 se)) (fun W => True) 99 (by kernel_rfl) ?_
        refine tkS (i := 0) hS0.out ?_; try walk_nrm
        refine tkS (i := 1) hS0.out ?_; try walk_nrm
        refine tkS (i := 2) hS0.out ?_; try walk_nrm
        refine tkS (i := 3) hS0.out ?_; try walk_nrm
        refine tkS (i := 4) hS0.out ?_; try walk_nrm
        refine tkS (i := 5) hS0.out ?_; try walk_nrm
        refine tkS (i := 6) hS0.out ?_; try walk_nrm
        refine tkS (i := 7) hS0.out ?_; try walk_nrm
        refine tkS (i := 8) hS0.out ?_; try walk_nrm
        refine tkS (i := 9) hS0.out ?_; try walk_nrm
        refine tkS (i := 10) hS0.out ?_; try walk_nrm
        refine tkS (i := 11) hS0.out ?_; try walk_nrm
        refine tkS (i := 12) hS0.out ?_; try walk_nrm
        refine tkS (i := 13) hS0.out ?_; try walk_nrm
        refine tkS (i := 14) hS0.out ?_; try walk_nrm
        refine wpAnyT_one (i := 15) (by kernel_rfl) rfl (fun K hK => ?_)
        try walk_nrm
        rw [if_pos (by rfl)]
        go_simp
        have hal : Below v4.heap.size v4 (v4.drew.alloc (.cells #[.int .i64 4, .int .i64 id, .int .i64 se, .int .i64 0, .int .i64 0, .slice none 0 0, .int .i64 0, .int .i64 0, .slice none 0 0, .int .i64 0, .int .i64 0, .int .i64 0, .string ⟨#[]⟩, .string ⟨#[]⟩, .int .i64 0] 37)) := hbd.alloc hbd.size _
        have HBe := Lib.hid (below_next HBc.out hal)
        have HOd := Lib.hid (HOc.out.below hal)
        have hS1 := Lib.hid (show (v4.drew.alloc (.cells #[.int .i64 4, .int .i64 id, .int .i64 se, .int .i64 0, .int .i64 0, .slice none 0 0, .int .i64 0, .int .i64 0, .slice none 0 0, .int .i64 0, .int .i64 0, .int .i64 0, .string ⟨#[]⟩, .string ⟨#[]⟩, .int .i64 0] 37)).cell? ⟨w.heap.size, 2, none⟩ = some (.slice (some ⟨b, o, none⟩) n0 c0) ∧ (v4.drew.alloc (.cells #[.int .i64 4, .int .i64 id, .int .i64 se, .int .i64 0, .int .i64 0, .slice none 0 0, .int .i64 0, .int .i64 0, .slice none 0 0, .int .i64 0, .int .i64 0, .int .i64 0, .string ⟨#[]⟩, .string ⟨#[]⟩, .int .i64 0] 37)).cell? ⟨b, o + k * 4, none⟩ = some (.int .i64 id) ∧ (v4.drew.alloc (.cells #[.int .i64 4, .int .i64 id, .int .i64 se, .int .i64 0, .int .i64 0, .slice none 0 0, .int .i64 0, .int .i64 0, .slice none 0 0, .int .i64 0, .int .i64 0, .int .i64 0, .string ⟨#[]⟩, .string ⟨#[]⟩, .int .i64 0] 37)).cell? ⟨b, o + k * 4 + 3, none⟩ = some (.int .i64 se) from ⟨(HXp.out _ (HBe.out)).at_ 2 rfl, (HCq.out _ (HBe.out)).1, (HCq.out _ (HBe.out)).2.2.2⟩)
        refine hK.out _ _ hS1.out (fun _ => trivial) ?_
        clear hK
        try walk_nrm
        refine wpAnyT_one (i := 16) (by kernel_rfl) rfl (fun K hK => ?_)
        have hsd := HBe.out.size
        refine step_appN manyE (by rfl) 56 rfl (.tmp 40) (.tmp 55) rfl rfl HOd.out (some ⟨v4.drew.heap.size, 0, none⟩) 1 1 [.int .i64 4, .int .i64 id, .int .i64 se, .int .i64 0, .int .i64 0, .slice none 0 0, .int .i64 0, .int .i64 0, .slice none 0 0, .int .i64 0, .int .i64 0, .int .i64 0, .string ⟨#[]⟩, .string ⟨#[]⟩, .int .i64 0] (Ed.er_one (Ed.x4 (⟨id, ep, P, pn, pc, se⟩, ps)).1) rfl (rd_er v4.drew (Ed.x4 (⟨id, ep, P, pn, pc, se⟩, ps)).1 37) hl2 hsd ?_
        intro R5 c5 v5 hg5
        have HBf := Lib.hid (hg5.below HBe.out hsd (fun g h => (HOd.out.blk g h).1))
        have HOe := Lib.hid (show OwnC 15 v5 v.heap.size 37 R5 (E3 ++ [Ed.x4 (⟨id, ep, P, pn, pc, se⟩, ps)]).length c5 (Ed.eflat ((E3 ++ [Ed.x4 (⟨id, ep, P, pn, pc, se⟩, ps)]).map (·.1))) from by
          have h := hg5.own
          rw [List.length_append, List.map_append]
          unfold Ed.eflat at h ⊢
          rw [List.flatMap_append]
          exact h)
        have hS5 := Lib.hid (show v5.cell? ⟨w.heap.size, 2, none⟩ = some (.slice (some ⟨b, o, none⟩) n0 c0) ∧ v5.cell? ⟨b, o + k * 4, none⟩ = some (.int .i64 id) ∧ v5.cell? ⟨b, o + k * 4 + 3, none⟩ = some (.int .i64 se) from ⟨(HXp.out _ (HBf.out)).at_ 2 rfl, (HCq.out _ (HBf.out)).1, (HCq.out _ (HBf.out)).2.2.2⟩)
        refine hK.out _ _ hS5.out (fun _ => trivial) ?_
        clear hK
        try walk_nrm
        refine tkS (i := 17) hS5.out ?_; try walk_nrm
        refine wpAnyT_done (by kernel_rfl) ?_ _
        have hle : E3.length + 1 = (E3 ++ [Ed.x4 (⟨id, ep, P, pn, pc, se⟩, ps)]).length := by rw [List.length_append]; rfl
        rw [hle]
        go_wp2_with fail
        go_roundw
        case rel => exact ⟨k + 1, E3 ++ [Ed.x4 (⟨id, ep, P, pn, pc, se⟩, ps)], R5, c5, by omega, rfl, by go_num, Lib.hid HEm.out.symm, by rw [← hle]; omega, HOe, HBf⟩
        case measure => simp [intOf]; omega
    · have hki : ¬ (k : Int) < (n0 : Int) := by omega
      have hkn : n0 = k := by omega
      have HE2 := Lib.hid (show E = [Ed.x1 nx, Ed.x2 sq] ++ (L0.map Ed.xl).flatten by rw [HE.out, List.take_of_length_le (by rw [HL1.out.len]; omega)])
      have hel2 : E.length ≤ 66 := by omega
      clear hlt HE hkn hel
      go_wp2_with fail
      clear x2 hki hk
      obtain ⟨E0, hE0⟩ : ∃ E0, E0 = E := ⟨E, rfl⟩
      rw [← hE0] at HE2 hel2
      have HO0 := HO
      have HB0 := HB
      go_loopw [3, 5] (fun s3 ii wr => ∃ (j : Nat) (E : List Ed.Ex) (R : Option Addr) (rc : Nat), j ≤ m0 ∧ s3 = .slice R E.length rc ∧ ii = .int .i64 (j : Int) ∧ Hid (E = E0 ++ (M0.take j).map Ed.x6) ∧ E.length ≤ 66 + j ∧ Hid (OwnC 15 wr v.heap.size 37 R E.length rc (Ed.eflat (E.map (·.1)))) ∧ Hid (Below v.heap.size v wr)) (fun _ ii _ => m0 - (intOf ii).toNat)
      case atStart => exact ⟨0, E, R, rc, by omega, rfl, rfl, Lib.hid (by rw [hE0]; simp), by rw [hE0] at hel2; omega, HO0, HB0⟩
      case round =>
        clear HO0 HB0 HO HB hE0
        obtain ⟨j, E, R, rc, hj, rfl, rfl, HE, hel, HO, HB⟩ := hrel
        have x3 := (HXp.out _ HB.out).at_ 3 rfl
        by_cases hlt : j < m0
        · have hki : (j : Int) < (m0 : Int) := by omega
          have hk0 : (0 : Int) ≤ (j : Int) := by omega
          obtain ⟨y, hy⟩ : ∃ y, M0[j]? = some y := ⟨_, List.getElem?_eq_getElem (by rw [HM1.out.len]; exact hlt)⟩
          obtain ⟨b, o, hAb, _, hp, hc⟩ := HM1.out.nine hy
          have HEn := Lib.hid (show E0 ++ (M0.take (j + 1)).map Ed.x6 = E ++ [Ed.x6 y] by rw [HE.out, List.take_add_one, hy]; simp)
          subst hAb
          obtain ⟨⟨id, ep, P, pn, pc, sz, lv, ct, lo, hi, tp⟩, ps⟩ := y
          obtain ⟨e0, e1, e2, e3, e4, e5, e6, e7, e8⟩ := hc wr HB.out
          dsimp only at e0 e1 e2 e3 e4 e5 e6 e7 e8
          clear hy hp hc HE
          have hal : Below wr.heap.size wr (wr.alloc (.cells #[.int .i64 6, .int .i64 0, .int .i64 0, .int .i64 0, .int .i64 0, .slice none 0 0, .int .i64 id, .int .i64 ep, .slice P pn pc, .int .i64 sz, .int .i64 lv, .int .i64 ct, .string lo, .string hi, .int .i64 tp] 37)) := (Below.refl _ _).alloc (Nat.le_refl _) _
          have HOb := Lib.hid (HO.out.below hal)
          have HBb := Lib.hid (below_next HB.out hal)
          have hsb := HBb.out.size
          have hl1 : E.length + 1 ≤ 1000000 := by omega
          clear hal HO HB
          go_upto_region 12 with (at_builtin; refine wpList_appN manyE rfl (.tmp 64) (.tmp 71) rfl rfl HOb.out (some ⟨wr.heap.size, 0, none⟩) 1 1 [.int .i64 6, .int .i64 0, .int .i64 0, .int .i64 0, .int .i64 0, .slice none 0 0, .int .i64 id, .int .i64 ep, .slice P pn pc, .int .i64 sz, .int .i64 lv, .int .i64 ct, .string lo, .string hi, .int .i64 tp] (Ed.er_one (Ed.x6 (⟨id, ep, P, pn, pc, sz, lv, ct, lo, hi, tp⟩, ps)).1) rfl (rd_er wr (Ed.x6 (⟨id, ep, P, pn, pc, sz, lv, ct, lo, hi, tp⟩, ps)).1 37) hl1 hsb ?_; intro R4 c4 v4 hg4)
          have HBc := Lib.hid (hg4.below HBb.out hsb (fun g h => (HOb.out.blk g h).1))
          have HOc := Lib.hid (show OwnC 15 v4 v.heap.size 37 R4 (E ++ [Ed.x6 (⟨id, ep, P, pn, pc, sz, lv, ct, lo, hi, tp⟩, ps)]).length c4 (Ed.eflat ((E ++ [Ed.x6 (⟨id, ep, P, pn, pc, sz, lv, ct, lo, hi, tp⟩, ps)]).map (·.1))) from by
            have h := hg4.own
            rw [List.length_append, List.map_append]
            unfold Ed.eflat at h ⊢
            rw [List.flatMap_append]
            exact h)
          have hlc : E.length + 1 = (E ++ [Ed.x6 (⟨id, ep, P, pn, pc, sz, lv, ct, lo, hi, tp⟩, ps)]).length := by rw [List.length_append]; rfl
          clear e0 e1 e2 e3 e4 e5 e6 e7 e8 x3 HOb HBb hsb hg4
          rw [hlc]
          go_wp2_with fail
          go_roundw
          case rel => exact ⟨j + 1, E ++ [Ed.x6 (⟨id, ep, P, pn, pc, sz, lv, ct, lo, hi, tp⟩, ps)], R4, c4, by omega, rfl, by go_num, Lib.hid HEn.out.symm, by rw [← hlc]; omega, HOc, HBc⟩
          case measure => simp [intOf]; omega
        · have hki : ¬ (j : Int) < (m0 : Int) := by omega
          have HFin := Lib.hid (show E = [Ed.x1 nx, Ed.x2 sq] ++ (L0.map Ed.xl).flatten ++ M0.map Ed.x6 by rw [HE.out, HE2.out, List.take_of_length_le (by rw [HM1.out.len]; omega)])
          clear hlt HE
          go_wp2
          go_ret
          exact ⟨below_next HBv.out HB.out, fun h => Bool.noConfusion h, fun _ => ⟨R, rc, E, rfl, by rw [HFin.out]; exact HE1.out, ⟨rfl, HO.out.rd, fun x hx => (HEx.out x (by rw [← HFin.out]; exact hx)).below HB.out⟩, by omega⟩⟩
end Go.Proofs.YthfcjlndaajkfaaGreat
