/- The statement's version: not many more logs and tables than are looked at. -/
import Derived.Test.YthfcjlndaajkfaaGreatTEdLTa
import Derived.Test.YthfcjlndaajkfaaGreatG12
import Derived.Test.YthfcjlndaajkfaaGreatTHeldS
namespace Go.Proofs.YthfcjlndaajkfaaGreat
open Go.RowKit
set_option linter.unusedVariables false
set_option linter.unusedSimpArgs false
namespace Ed
def cutL (x : Lg × List (Int × Int)) : Lg × List (Int × Int) := (⟨x.1.id, x.1.ep, x.1.P, min x.1.pn 66, x.1.pc, x.1.se⟩, x.2.take 66)
def cutT (x : Pk.Tb × List (Int × Int)) : Pk.Tb × List (Int × Int) := (⟨x.1.id, x.1.ep, x.1.P, min x.1.pn 66, x.1.pc, x.1.sz, x.1.lv, x.1.ct, x.1.lo.extract 0 (min x.1.lo.size 70), x.1.hi.extract 0 (min x.1.hi.size 70), x.1.tp⟩, x.2.take 66)
end Ed
/-- What the statement's version gives: the same numbers, some logs and tables. -/
def GivesVer (w : World) (nx sq : Int) (n m : Nat) (L : List (Ed.Lg × List (Int × Int))) (M : List (Pk.Tb × List (Int × Int))) (e : Ending) (w' : World) : Prop :=
  ∃ (A' : Option Addr) (c' : Nat) (B' : Option Addr) (d' : Nat), e = .returned (.agg #[.int .i64 nx, .int .i64 sq, .slice A' (min n 34) c', .slice B' (min m 130) d']) ∧ RdLs w' A' (min n 34) ((L.take 34).map Ed.cutL) ∧ RdTs w' B' (min m 130) ((M.take 130).map Ed.cutT) ∧ Below w.heap.size w w' ∧ OwnC 4 w' w.heap.size 62 A' (min n 34) c' (Ed.lflat ((L.take (min n 34)).map fun x => (Ed.cutL x).1)) ∧ OwnC 9 w' w.heap.size 35 B' (min m 130) d' (Pk.flat ((M.take (min m 130)).map fun x => (Ed.cutT x).1))
theorem rd_log (w : World) (id ep : Int) (P : Option Addr) (pn pc : Nat) (se : Int) (E : TypeId) : RdC 4 (w.alloc (.cells #[.int .i64 id, .int .i64 ep, .slice P pn pc, .int .i64 se] E)) (some ⟨w.heap.size, 0, none⟩) 1 [.int .i64 id, .int .i64 ep, .slice P pn pc, .int .i64 se] := by
  have h := Holds.new w #[.int .i64 id, .int .i64 ep, .slice P pn pc, .int .i64 se] E
  refine ⟨rfl, fun _ => ⟨_, 0, rfl, by simp, fun j v hv => ?_⟩⟩
  rw [Nat.zero_add]
  exact h.at_ j hv
theorem Ed.lg_one (x : Ed.Lg) : ∀ u ∈ x.cells, u.oneCell' = true := by
  intro u hu
  simp only [Ed.Lg.cells, List.mem_cons, List.not_mem_nil, or_false] at hu
  rcases hu with rfl | rfl | rfl | rfl <;> rfl
theorem rd_tab (w : World) (x : Pk.Tb) (E : TypeId) : RdC 9 (w.alloc (.cells x.cells.toArray E)) (some ⟨w.heap.size, 0, none⟩) 1 x.cells := by
  have h := Holds.new w x.cells.toArray E
  refine ⟨rfl, fun _ => ⟨_, 0, rfl, by simp, fun j v hv => ?_⟩⟩
  rw [Nat.zero_add]
  exact h.at_ j (by simpa using hv)
theorem Ed.tb_one (x : Pk.Tb) : ∀ u ∈ x.cells, u.oneCell' = true := by
  intro u hu
  simp only [Pk.Tb.cells, List.mem_cons, List.not_mem_nil, or_false] at hu
  rcases hu with rfl | rfl | rfl | rfl | rfl | rfl | rfl | rfl | rfl <;> rfl
theorem take_min {α : Type} {l : List α} {n k : Nat} (h : l.length = n) : l.take (min n k) = l.take k := by
  by_cases hk : n ≤ k
  · rw [Nat.min_eq_left hk, List.take_of_length_le (by omega), List.take_of_length_le (by omega)]
  · rw [Nat.min_eq_right (by omega)]
theorem rdls_cut {w w' : World} {A A' : Option Addr} {n c' : Nat} {base : Nat} {L : List (Ed.Lg × List (Int × Int))} (h : RdLs w A n L) (hb : Below w.heap.size w w') (ho : OwnC 4 w' base 62 A' (min n 34) c' (Ed.lflat ((L.take (min n 34)).map fun x => (Ed.cutL x).1))) : RdLs w' A' (min n 34) ((L.take 34).map Ed.cutL) := by
  refine ⟨by rw [List.length_map, List.length_take, h.1]; omega, ?_, ?_⟩
  · have e := ho.rd
    rw [take_min h.1] at e
    rw [List.map_map]
    exact e
  · intro x hx
    obtain ⟨y, hy, rfl⟩ := List.mem_map.1 hx
    obtain ⟨f, p, q, r⟩ := (h.below hb).2.2 y (List.mem_of_mem_take hy)
    have hc := PairsOk.cut (q := min y.1.pn 66) (show PairsOk w' y.1.P y.1.pn y.1.pc y.2 from ⟨p, q, r⟩) (Nat.min_le_left _ _)
    rw [take_min p.1] at hc
    exact ⟨f, hc.1, hc.2.1, hc.2.2⟩
theorem rdts_cut {w w' : World} {A A' : Option Addr} {n c' : Nat} {base : Nat} {L : List (Pk.Tb × List (Int × Int))} (h : RdTs w A n L) (hb : Below w.heap.size w w') (ho : OwnC 9 w' base 35 A' (min n 130) c' (Pk.flat ((L.take (min n 130)).map fun x => (Ed.cutT x).1))) : RdTs w' A' (min n 130) ((L.take 130).map Ed.cutT) := by
  have hl := h.len
  refine ⟨⟨by rw [List.length_map, List.length_map, List.length_take, hl]; omega, ?_, ?_⟩, ?_⟩
  · have e := ho.rd
    rw [take_min hl] at e
    rw [List.map_map]
    exact e
  · intro x hx
    obtain ⟨z, hz, rfl⟩ := List.mem_map.1 hx
    obtain ⟨y, hy, rfl⟩ := List.mem_map.1 hz
    have f := h.1.2.2 y.1 (List.mem_map.2 ⟨y, List.mem_of_mem_take hy, rfl⟩)
    refine ⟨?_, ?_, f.2.2⟩
    · have := f.1
      show (y.1.lo.extract 0 (min y.1.lo.size 70)).size ≤ _
      rw [ByteArray.size_extract]
      omega
    · have := f.2.1
      show (y.1.hi.extract 0 (min y.1.hi.size 70)).size ≤ _
      rw [ByteArray.size_extract]
      omega
  · intro x hx
    obtain ⟨y, hy, rfl⟩ := List.mem_map.1 hx
    obtain ⟨p, q, r⟩ := (h.below hb).2 y (List.mem_of_mem_take hy)
    have hc := PairsOk.cut (q := min y.1.pn 66) (show PairsOk w' y.1.P y.1.pn y.1.pc y.2 from ⟨p, q, r⟩) (Nat.min_le_left _ _)
    rw [take_min p.1] at hc
    exact ⟨hc.1, hc.2.1, hc.2.2⟩
set_option maxRecDepth 100000 in
set_option maxHeartbeats 16000000 in
theorem lversion_any (nx sq : Int) (A : Option Addr) (n c : Nat) (B : Option Addr) (m d : Nat) (L : List (Ed.Lg × List (Int × Int))) (M : List (Pk.Tb × List (Int × Int))) (w : World) (hL : RdLs w A n L) (hM : RdTs w B m M) (hn : n ≤ 9223372036854775807) (hm : m ≤ 9223372036854775807) :
    Calls Tryz.prog 7 #[.agg #[.int .i64 nx, .int .i64 sq, .slice A n c, .slice B m d]] w (GivesVer w nx sq n m L M) := by
  have hb3 : Below w.heap.size w (((w.alloc (.cells #[.int .i64 nx, .int .i64 sq, .slice A n c, .slice B m d] 25)).alloc (.cells #[.int .i64 0, .int .i64 0, .slice none 0 0, .slice none 0 0] 25)).alloc (.cells #[.int .i64 nx, .int .i64 sq, .slice none 0 0, .slice none 0 0] 25)) := (((Below.refl _ _).alloc (Nat.le_refl _) _).alloc (by simp) _).alloc (by simp <;> omega) _
  have HB := hd_ hb3
  have HL0 := hd_ hL
  have HM0 := hd_ hM
  have HL := hd_ (hL.below hb3)
  have HM := hd_ (hM.below hb3)
  have HLw := hd_ hL
  have HX := hd_ (((Holds.new w #[.int .i64 nx, .int .i64 sq, .slice A n c, .slice B m d] 25).alloc (.cells #[.int .i64 0, .int .i64 0, .slice none 0 0, .slice none 0 0] 25)).alloc (.cells #[.int .i64 nx, .int .i64 sq, .slice none 0 0, .slice none 0 0] 25))
  have s1 : (w.alloc (.cells #[.int .i64 nx, .int .i64 sq, .slice A n c, .slice B m d] 25)).heap.size = w.heap.size + 1 := by simp
  have s2 : ((w.alloc (.cells #[.int .i64 nx, .int .i64 sq, .slice A n c, .slice B m d] 25)).alloc (.cells #[.int .i64 0, .int .i64 0, .slice none 0 0, .slice none 0 0] 25)).heap.size = w.heap.size + 1 + 1 := by simp
  have HR := hd_ (show Holds (((w.alloc (.cells #[.int .i64 nx, .int .i64 sq, .slice A n c, .slice B m d] 25)).alloc (.cells #[.int .i64 0, .int .i64 0, .slice none 0 0, .slice none 0 0] 25)).alloc (.cells #[.int .i64 nx, .int .i64 sq, .slice none 0 0, .slice none 0 0] 25)) (w.heap.size + 1) [.int .i64 0, .int .i64 0, .slice none 0 0, .slice none 0 0] from by
    have h := (Holds.new (w.alloc (.cells #[.int .i64 nx, .int .i64 sq, .slice A n c, .slice B m d] 25)) #[.int .i64 0, .int .i64 0, .slice none 0 0, .slice none 0 0] 25).alloc (.cells #[.int .i64 nx, .int .i64 sq, .slice none 0 0, .slice none 0 0] 25)
    rwa [s1] at h)
  have HV := hd_ (show Holds (((w.alloc (.cells #[.int .i64 nx, .int .i64 sq, .slice A n c, .slice B m d] 25)).alloc (.cells #[.int .i64 0, .int .i64 0, .slice none 0 0, .slice none 0 0] 25)).alloc (.cells #[.int .i64 nx, .int .i64 sq, .slice none 0 0, .slice none 0 0] 25)) (w.heap.size + 1 + 1) [.int .i64 nx, .int .i64 sq, .slice none 0 0, .slice none 0 0] from by
    have h := Holds.new ((w.alloc (.cells #[.int .i64 nx, .int .i64 sq, .slice A n c, .slice B m d] 25)).alloc (.cells #[.int .i64 0, .int .i64 0, .slice none 0 0, .slice none 0 0] 25)) #[.int .i64 nx, .int .i64 sq, .slice none 0 0, .slice none 0 0] 25
    rwa [s2] at h)
  have x0 := ((Holds.new w #[.int .i64 nx, .int .i64 sq, .slice A n c, .slice B m d] 25).alloc (.cells #[.int .i64 0, .int .i64 0, .slice none 0 0, .slice none 0 0] 25)).at_ 0 rfl
  have x1 := ((Holds.new w #[.int .i64 nx, .int .i64 sq, .slice A n c, .slice B m d] 25).alloc (.cells #[.int .i64 0, .int .i64 0, .slice none 0 0, .slice none 0 0] 25)).at_ 1 rfl
  clear hb3 hL hM s1 s2
  go_enter Tryz.func7, Tryz.ntmps7
  go_upto_region 3 with fail
  clear x0 x1
  generalize (((w.alloc (.cells #[.int .i64 nx, .int .i64 sq, .slice A n c, .slice B m d] 25)).alloc (.cells #[.int .i64 0, .int .i64 0, .slice none 0 0, .slice none 0 0] 25)).alloc (.cells #[.int .i64 nx, .int .i64 sq, .slice none 0 0, .slice none 0 0] 25)) = u at *
  replace HX : Hid (Holds u w.heap.size [.int .i64 nx, .int .i64 sq, .slice A n c, .slice B m d]) := HX
  obtain ⟨vb, hvb⟩ : ∃ vb, vb = w.heap.size + 1 + 1 := ⟨_, rfl⟩
  rw [← hvb] at HV ⊢
  have HVb := hd_ hvb
  have hus := HV.out.1
  clear hvb
  go_loopw [4] (fun ii wr => ∃ (k : Nat) (A' : Option Addr) (c' : Nat), k ≤ n ∧ k ≤ 34 ∧ ii = .int .i64 (k : Int) ∧ Hid (Holds wr w.heap.size [.int .i64 nx, .int .i64 sq, .slice A n c, .slice B m d]) ∧ Hid (Holds wr (w.heap.size + 1) [.int .i64 0, .int .i64 0, .slice none 0 0, .slice none 0 0]) ∧ Hid (Holds wr vb [.int .i64 nx, .int .i64 sq, .slice A' k c', .slice none 0 0]) ∧ Hid (OwnC 4 wr u.heap.size 62 A' k c' (Ed.lflat ((L.take k).map fun x => (Ed.cutL x).1))) ∧ Hid (Below w.heap.size w wr) ∧ u.heap.size ≤ wr.heap.size) (fun ii _ => n - (intOf ii).toNat)
  case atStart => exact ⟨0, none, 0, by omega, by omega, rfl, HX, HR, HV, hd_ (OwnC.none_ _ _ _ _), HB, Nat.le_refl _⟩
  case round =>
    clear HX HR HV HB
    obtain ⟨k, A', c', hk, hk34, rfl, HX, HR, HV, HO, HB, hsz⟩ := hrel
    by_cases hlt : k < n ∧ k < 34
    · have hki : (k : Int) < (n : Int) := by omega
      have hk3 : (k : Int) < 34 := by omega
      have hk0 : (0 : Int) ≤ (k : Int) := by omega
      obtain ⟨y, hy⟩ : ∃ y, L[k]? = some y := ⟨_, List.getElem?_eq_getElem (by rw [HL.out.len]; exact hlt.1)⟩
      obtain ⟨b, o, hAb, _, hp, hcc⟩ := HLw.out.four hy
      have HY := hd_ hy
      subst hAb
      have hbd : Below wr.heap.size wr wr.drew := (Below.refl _ _).drew
      have HBd := hd_ (below_next HB.out hbd)
      have HPd := hd_ (hp.below HBd.out)
      have HC := hd_ (fun W (hW : Below w.heap.size w W) => hcc W hW)
      obtain ⟨⟨id, ep, P, pn, pc, se⟩, ps⟩ := y
      obtain ⟨e0, e1, e2, e3⟩ := HC.out _ HBd.out
      have HXd := hd_ (HX.out.below hbd)
      have HRd := hd_ (HR.out.below hbd)
      have HVd := hd_ (HV.out.below hbd)
      have HOd := hd_ (HO.out.below hbd)
      have x2 := HXd.out.at_ 2 rfl
      have v2 := HVd.out.at_ 2 rfl
      have a2 := HX.out.at_ 2 rfl
      have HVs := hd_ (HVb.out)
      have HVl := hd_ (show vb ≠ w.heap.size ∧ vb ≠ w.heap.size + 1 ∧ w.heap.size ≤ vb ∧ vb < u.heap.size ∧ w.heap.size < u.heap.size ∧ w.heap.size + 1 < u.heap.size from ⟨by rw [HVb.out]; omega, by rw [HVb.out]; omega, by rw [HVb.out]; omega, hus, by have := HVb.out; omega, by have := HVb.out; omega⟩)
      dsimp only at e0 e1 e2 e3 HPd
      clear hy hp hcc
      have HSt := hd_ (fun (P8 : Option Addr) (c8 : Nat) (v6 v8 : World) (h6 : Below wr.drew.heap.size wr.drew v6) (hg8 : GrewC 4 (v6.alloc (.cells #[.int .i64 id, .int .i64 ep, .slice P (min pn 66) pc, .int .i64 se] 62)) v8 u.heap.size 62 A' P8 k c' (k + 1) c8 (Ed.lflat ((L.take k).map fun x => (Ed.cutL x).1) ++ [.int .i64 id, .int .i64 ep, .slice P (min pn 66) pc, .int .i64 se])) => (show (Below w.heap.size w v8 ∧ Holds v8 w.heap.size [.int .i64 nx, .int .i64 sq, .slice (some ⟨b, o, none⟩) n c, .slice B m d] ∧ Holds v8 (w.heap.size + 1) [.int .i64 0, .int .i64 0, .slice none 0 0, .slice none 0 0] ∧ Holds v8 vb [.int .i64 nx, .int .i64 sq, .slice A' k c', .slice none 0 0]) ∧ (v6.alloc (.cells #[.int .i64 id, .int .i64 ep, .slice P (min pn 66) pc, .int .i64 se] 62)).heap.size ≤ v8.heap.size from by
        have ha6 : Below v6.heap.size v6 (v6.alloc (.cells #[.int .i64 id, .int .i64 ep, .slice P (min pn 66) pc, .int .i64 se] 62)) := (Below.refl _ _).alloc (Nat.le_refl _) _
        have hO6 := (HOd.out.below h6).below ha6
        have hfar : ∀ g, (Value.slice A' k c').ownBlock = some g → u.heap.size ≤ g := fun g hg => (hO6.blk g hg).1
        have l1 := HVl.out
        have hsz6 : w.heap.size ≤ (v6.alloc (.cells #[.int .i64 id, .int .i64 ep, .slice P (min pn 66) pc, .int .i64 se] 62)).heap.size := by have := HBd.out.size; have := h6.size; have := ha6.size; omega
        exact ⟨⟨hg8.below (below_next (below_next HBd.out h6) ha6) hsz6 (fun g hg => by have := hfar g hg; omega),
          ((HXd.out.below h6).below ha6).grown hg8.grew (fun e => by have := hfar _ e; omega),
          ((HRd.out.below h6).below ha6).grown hg8.grew (fun e => by have := hfar _ e; omega),
          ((HVd.out.below h6).below ha6).grown hg8.grew (fun e => by have := hfar _ e; omega)⟩, hg8.grew.size⟩))
      have HEn := hd_ (fun (P8 : Option Addr) (c8 : Nat) (v8 : World) (hB : Below w.heap.size w v8) (hX : Holds v8 w.heap.size [.int .i64 nx, .int .i64 sq, .slice (some ⟨b, o, none⟩) n c, .slice B m d]) => (show (v8.setCell ⟨vb, 2, none⟩ (.slice P8 (k + 1) c8)).cell? ⟨w.heap.size, 2, none⟩ = some (.slice (some ⟨b, o, none⟩) n c) ∧ Below w.heap.size w (v8.setCell ⟨vb, 2, none⟩ (.slice P8 (k + 1) c8)) from
        ⟨(hX.grown (grown_cell v8 vb 2 (.slice P8 (k + 1) c8)) (fun e => by injection e with e; exact HVl.out.1 e)).at_ 2 rfl, hB.grown (grown_cell v8 vb 2 _) hB.size (fun g e => by injection e with e; have := HVl.out; omega)⟩))
      go_wp2_with fail
      refine wp_region_T (fun W => W.cell? ⟨w.heap.size, 2, none⟩ = some (.slice (some ⟨b, o, none⟩) n c) ∧ W.cell? ⟨b, o + k * 4, none⟩ = some (.int .i64 id) ∧ W.cell? ⟨b, o + k * 4 + 1, none⟩ = some (.int .i64 ep) ∧ W.cell? ⟨b, o + k * 4 + 2, none⟩ = some (.slice P pn pc) ∧ W.cell? ⟨b, o + k * 4 + 3, none⟩ = some (.int .i64 se)) (fun W => W.cell? ⟨vb, 2, none⟩ = some (.slice A' k c')) 17 (by kernel_rfl) ?_
      have hS0 := hd_ (show wr.drew.cell? ⟨w.heap.size, 2, none⟩ = some (.slice (some ⟨b, o, none⟩) n c) ∧ wr.drew.cell? ⟨b, o + k * 4, none⟩ = some (.int .i64 id) ∧ wr.drew.cell? ⟨b, o + k * 4 + 1, none⟩ = some (.int .i64 ep) ∧ wr.drew.cell? ⟨b, o + k * 4 + 2, none⟩ = some (.slice P pn pc) ∧ wr.drew.cell? ⟨b, o + k * 4 + 3, none⟩ = some (.int .i64 se) from ⟨x2, e0, e1, e2, e3⟩)
      have hT0 := hd_ (show wr.drew.cell? ⟨vb, 2, none⟩ = some (.slice A' k c') from v2)
      refine tkT (i := 0) hS0.out (fun _ => hT0.out) ?_; try walk_nrm
      refine tkW (i := 1) hS0.out hT0.out ?_; try walk_nrm
      refine tkT (i := 2) hS0.out (fun _ => hT0.out) ?_; try walk_nrm
      refine tkT (i := 3) hS0.out (fun _ => hT0.out) ?_; try walk_nrm
      refine tkT (i := 4) hS0.out (fun _ => hT0.out) ?_; try walk_nrm
      refine tkT (i := 5) hS0.out (fun _ => hT0.out) ?_; try walk_nrm
      refine tkT (i := 6) hS0.out (fun _ => hT0.out) ?_; try walk_nrm
      refine tkT (i := 7) hS0.out (fun _ => hT0.out) ?_; try walk_nrm
      refine tkT (i := 9) hS0.out (fun _ => hT0.out) ?_; try walk_nrm
      refine tkT (i := 10) hS0.out (fun _ => hT0.out) ?_; try walk_nrm
      refine tkT (i := 11) hS0.out (fun _ => hT0.out) ?_; try walk_nrm
      refine tkT (i := 12) hS0.out (fun _ => hT0.out) ?_; try walk_nrm
      refine tkT (i := 13) hS0.out (fun _ => hT0.out) ?_; try walk_nrm
      refine tkT (i := 14) hS0.out (fun _ => hT0.out) ?_; try walk_nrm
      refine wpAnyT_one (i := 8) (by kernel_rfl) rfl (fun K hK => ?_)
      try walk_nrm
      rw [if_pos (by rfl)]
      go_simp
      refine (lplace_any id ep P pn pc ps wr.drew HPd.out).mono ?_
      rintro e v6 ⟨rfl, hb6⟩
      have HB6 := hd_ (below_next HBd.out hb6)
      have x6 := (HXd.out.below hb6).at_ 2 rfl
      have v6c := (HVd.out.below hb6).at_ 2 rfl
      obtain ⟨d0, d1, d2, d3⟩ := HC.out _ HB6.out
      have hS6 := hd_ (And.intro x6 (And.intro d0 (And.intro d1 (And.intro d2 d3))))
      have hT6 := hd_ v6c
      clear x6 v6c d0 d1 d2 d3
      refine hK.out _ _ hS6.out (fun _ => hT6.out) ?_
      clear hK
      try walk_nrm
      refine tkT (i := 15) hS6.out (fun _ => hT6.out) ?_; try walk_nrm
      refine wpAnyT_one (i := 16) (by kernel_rfl) rfl (fun K hK => ?_)
      try walk_nrm
      rw [if_pos (by rfl)]
      go_simp
      have ha6 : Below v6.heap.size v6 (v6.alloc (.cells #[.int .i64 id, .int .i64 ep, .slice P (min pn 66) pc, .int .i64 se] 62)) := (Below.refl _ _).alloc (Nat.le_refl _) _
      have HB7 := hd_ (below_next HB6.out ha6)
      have x7 := ((HXd.out.below hb6).below ha6).at_ 2 rfl
      have v7c := ((HVd.out.below hb6).below ha6).at_ 2 rfl
      obtain ⟨d0, d1, d2, d3⟩ := HC.out _ HB7.out
      have hS7 := hd_ (And.intro x7 (And.intro d0 (And.intro d1 (And.intro d2 d3))))
      have hT7 := hd_ v7c
      clear x7 v7c d0 d1 d2 d3
      refine hK.out _ _ hS7.out (fun _ => hT7.out) ?_
      clear hK
      try walk_nrm
      refine wpAnyT_one (i := 17) (by kernel_rfl) rfl (fun K hK => ?_)
      have HO7 := hd_ ((HOd.out.below hb6).below ha6)
      have hr7 := rd_log v6 id ep P (min pn 66) pc se 62
      have hb7 : u.heap.size ≤ (v6.alloc (.cells #[.int .i64 id, .int .i64 ep, .slice P (min pn 66) pc, .int .i64 se] 62)).heap.size := Nat.le_trans (Nat.le_trans (Nat.le_trans hsz hbd.size) hb6.size) ha6.size
      refine step_appN manyL (by rfl) 39 rfl (.tmp 23) (.tmp 38) rfl rfl HO7.out (some ⟨v6.heap.size, 0, none⟩) 1 1 [.int .i64 id, .int .i64 ep, .slice P (min pn 66) pc, .int .i64 se] (Ed.lg_one ⟨id, ep, P, min pn 66, pc, se⟩) rfl hr7 (by omega) hb7 ?_
      intro P8 c8 v8 hg8
      obtain ⟨⟨hB8, hX8, hR8, hV8⟩, hz8⟩ := HSt.out P8 c8 v6 v8 hb6 hg8
      have HB8 := hd_ hB8
      have HX8 := hd_ hX8
      have HR8 := hd_ hR8
      have HV8 := hd_ hV8
      have HO8 := hd_ hg8.own
      have hz9 : u.heap.size ≤ v8.heap.size := Nat.le_trans hb7 hz8
      have x8 := HX8.out.at_ 2 rfl
      obtain ⟨d0, d1, d2, d3⟩ := HC.out _ HB8.out
      have hS8 := hd_ (And.intro x8 (And.intro d0 (And.intro d1 (And.intro d2 d3))))
      clear hS0 hT0 hS6 hT6 hS7 hT7 HB6 HB7 HO7 hr7 hb7 ha6 hb6 hg8 hB8 hX8 hR8 hV8 x8 d0 d1 d2 d3
      refine hK.out _ _ hS8.out (fun h => Bool.noConfusion (h : true = false)) ?_
      clear hK
      try walk_nrm
      refine wpAnyT_take (i := 18) (v := ?_) rfl (by kernel_rfl) (by kernel_rfl) (by kernel_rfl) rfl (fun _ _ _ h => h) (Or.inl ⟨by rfl, ?_⟩) hS8.out (fun h => Bool.noConfusion (h : true = false)) ?_
      rotate_left
      · intro W hSW; (try dsimp only at hSW); go_simp; (try with_reducible rfl)
      try walk_nrm
      refine wpAnyT_one (i := 19) (by kernel_rfl) rfl (fun K hK => ?_)
      try walk_nrm
      rw [if_pos (by rfl)]
      have p8 := HV8.out.at_ 2 rfl
      have q8 := HV8.out.2.2 2
      go_simp
      have HG9 := hd_ (grown_cell v8 vb 2 (.slice P8 (k + 1) c8))
      have HX9 := hd_ (HX8.out.grown HG9.out (fun e => by injection e with e; exact HVl.out.1 e))
      have HR9 := hd_ (HR8.out.grown HG9.out (fun e => by injection e with e; exact HVl.out.2.1 e))
      have HV9 := hd_ (show Holds (v8.setCell ⟨vb, 2, none⟩ (.slice P8 (k + 1) c8)) vb [.int .i64 nx, .int .i64 sq, .slice P8 (k + 1) c8, .slice none 0 0] from HV8.out.set 2 _ (by simp))
      have HB9 := hd_ (HB8.out.grown HG9.out HB8.out.size (fun g e => by injection e with e; have := HVl.out; omega))
      have hsn : Ed.lflat ((L.take (k + 1)).map fun x => (Ed.cutL x).1) = Ed.lflat ((L.take k).map fun x => (Ed.cutL x).1) ++ [.int .i64 id, .int .i64 ep, .slice P (min pn 66) pc, .int .i64 se] := by rw [List.take_add_one, HY.out]; simp [Ed.lflat, Ed.cutL, Ed.Lg.cells]
      have HO9 := hd_ (HO8.out.grown HG9.out (.inr fun g hg e => by injection hg with hg; have := (HO8.out.blk g e).1; have := HVl.out; omega))
      rw [← hsn] at HO9
      have x9 := HX9.out.at_ 2 rfl
      obtain ⟨d0, d1, d2, d3⟩ := HC.out _ HB9.out
      have hz10 : u.heap.size ≤ (v8.setCell ⟨vb, 2, none⟩ (.slice P8 (k + 1) c8)).heap.size := Nat.le_trans hz9 HG9.out.size
      refine hK.out _ _ ⟨x9, d0, d1, d2, d3⟩ (fun h => Bool.noConfusion (h : true = false)) ?_
      clear hK hsn p8 q8 x9 d0 d1 d2 d3 hS8 HG9 HX8 HR8 HV8 HB8 HO8
      generalize (v8.setCell ⟨vb, 2, none⟩ (.slice P8 (k + 1) c8)) = v9 at *
      refine wpAnyT_done (by kernel_rfl) ?_ _
      go_wp2_with fail
      go_roundw
      case rel => exact ⟨k + 1, P8, c8, by omega, by omega, by go_num, HX9, HR9, HV9, HO9, HB9, hz10⟩
      case measure => simp [intOf]; omega
    · have hkm : k = min n 34 := by omega
      have hcase : (¬ (k : Int) < (n : Int)) ∨ ((k : Int) < (n : Int) ∧ ¬ (k : Int) < 34) := by omega
      have a2 := HX.out.at_ 2 rfl
      have a3 := HX.out.at_ 3 rfl
      have HKm := hd_ hkm
      clear hlt hkm
      rcases hcase with h1 | ⟨h1, h2⟩
      all_goals
        go_wp2_with fail
        have HOb := hd_ (fun (g : Nat) (hg : (Value.slice A' k c').ownBlock = some g) => (HO.out.blk g hg).2)
        obtain ⟨tb, htb⟩ : ∃ tb, tb = wr.heap.size := ⟨_, rfl⟩
        have hsz2 : u.heap.size ≤ tb := by rw [htb]; exact hsz
        rw [← htb] at HOb
        have htb2 : tb ≤ wr.heap.size := Nat.le_of_eq htb
        have HVl := hd_ (show vb ≠ w.heap.size ∧ vb ≠ w.heap.size + 1 ∧ w.heap.size ≤ vb ∧ vb < u.heap.size ∧ w.heap.size < u.heap.size ∧ w.heap.size + 1 < u.heap.size from ⟨by rw [HVb.out]; omega, by rw [HVb.out]; omega, by rw [HVb.out]; omega, hus, by have := HVb.out; omega, by have := HVb.out; omega⟩)
        clear htb hsz a2 a3 h1
        try clear h2
        go_loopw [5] (fun ii wr => ∃ (j : Nat) (B' : Option Addr) (d' : Nat), j ≤ m ∧ j ≤ 130 ∧ ii = .int .i64 (j : Int) ∧ Hid (Holds wr w.heap.size [.int .i64 nx, .int .i64 sq, .slice A n c, .slice B m d]) ∧ Hid (Holds wr (w.heap.size + 1) [.int .i64 0, .int .i64 0, .slice none 0 0, .slice none 0 0]) ∧ Hid (Holds wr vb [.int .i64 nx, .int .i64 sq, .slice A' k c', .slice B' j d']) ∧ Hid (OwnC 4 wr u.heap.size 62 A' k c' (Ed.lflat ((L.take k).map fun x => (Ed.cutL x).1))) ∧ Hid (OwnC 9 wr tb 35 B' j d' (Pk.flat ((M.take j).map fun x => (Ed.cutT x).1))) ∧ Hid (Below w.heap.size w wr) ∧ tb ≤ wr.heap.size) (fun ii _ => m - (intOf ii).toNat)
        case atStart => exact ⟨0, none, 0, by omega, by omega, rfl, HX, HR, HV, HO, hd_ (OwnC.none_ _ _ _ _), HB, htb2⟩
        case round =>
          clear HX HR HV HO HB htb2
          obtain ⟨j, B', d', hj, hj130, rfl, HX, HR, HV, HO, HT, HB, hst⟩ := hrel
          by_cases hlt : j < m ∧ j < 130
          · have hki : (j : Int) < (m : Int) := by omega
            have hk3 : (j : Int) < 130 := by omega
            have hk0 : (0 : Int) ≤ (j : Int) := by omega
            obtain ⟨y, hy⟩ : ∃ y, M[j]? = some y := ⟨_, List.getElem?_eq_getElem (by rw [HM0.out.len]; exact hlt.1)⟩
            obtain ⟨b, o, hAb, _, hp, hcc⟩ := HM0.out.nine hy
            have HY := hd_ hy
            have HFt := hd_ (HM0.out.1.2.2 y.1 (List.mem_map.2 ⟨y, List.mem_of_getElem? hy, rfl⟩))
            subst hAb
            have hbd : Below wr.heap.size wr wr.drew := (Below.refl _ _).drew
            have HBd := hd_ (below_next HB.out hbd)
            have HPd := hd_ (hp.below HBd.out)
            have HC := hd_ (fun W (hW : Below w.heap.size w W) => hcc W hW)
            obtain ⟨⟨id, ep, P, pn, pc, sz, lv, ct, lo, hi, tp⟩, ps⟩ := y
            have hls : lo.size ≤ 9223372036854775807 := HFt.out.1
            have hhs : hi.size ≤ 9223372036854775807 := HFt.out.2.1
            have HXd := hd_ (HX.out.below hbd)
            have HRd := hd_ (HR.out.below hbd)
            have HVd := hd_ (HV.out.below hbd)
            have HOd := hd_ (HO.out.below hbd)
            have HTd := hd_ (HT.out.below hbd)
            have a3 := HX.out.at_ 3 rfl
            dsimp only at HPd HC HY
            clear hy hp hcc
            have HSt := hd_ (fun (P8 : Option Addr) (c8 : Nat) (v6 v8 : World) (h6 : Below wr.drew.heap.size wr.drew v6) (hg8 : GrewC 9 (v6.alloc (.cells #[.int .i64 id, .int .i64 ep, .slice P (min pn 66) pc, .int .i64 sz, .int .i64 lv, .int .i64 ct, .string (lo.extract 0 (min lo.size 70)), .string (hi.extract 0 (min hi.size 70)), .int .i64 tp] 35)) v8 tb 35 B' P8 j d' (j + 1) c8 (Pk.flat ((M.take j).map fun x => (Ed.cutT x).1) ++ [.int .i64 id, .int .i64 ep, .slice P (min pn 66) pc, .int .i64 sz, .int .i64 lv, .int .i64 ct, .string (lo.extract 0 (min lo.size 70)), .string (hi.extract 0 (min hi.size 70)), .int .i64 tp])) => (show (Below w.heap.size w v8 ∧ Holds v8 w.heap.size [.int .i64 nx, .int .i64 sq, .slice A n c, .slice (some ⟨b, o, none⟩) m d] ∧ Holds v8 (w.heap.size + 1) [.int .i64 0, .int .i64 0, .slice none 0 0, .slice none 0 0] ∧ Holds v8 vb [.int .i64 nx, .int .i64 sq, .slice A' k c', .slice B' j d'] ∧ OwnC 4 v8 u.heap.size 62 A' k c' (Ed.lflat ((L.take k).map fun x => (Ed.cutL x).1))) ∧ (v6.alloc (.cells #[.int .i64 id, .int .i64 ep, .slice P (min pn 66) pc, .int .i64 sz, .int .i64 lv, .int .i64 ct, .string (lo.extract 0 (min lo.size 70)), .string (hi.extract 0 (min hi.size 70)), .int .i64 tp] 35)).heap.size ≤ v8.heap.size from by
              have ha6 : Below v6.heap.size v6 (v6.alloc (.cells #[.int .i64 id, .int .i64 ep, .slice P (min pn 66) pc, .int .i64 sz, .int .i64 lv, .int .i64 ct, .string (lo.extract 0 (min lo.size 70)), .string (hi.extract 0 (min hi.size 70)), .int .i64 tp] 35)) := (Below.refl _ _).alloc (Nat.le_refl _) _
              have hO6 := (HTd.out.below h6).below ha6
              have hfar : ∀ g, (Value.slice B' j d').ownBlock = some g → tb ≤ g := fun g hg => (hO6.blk g hg).1
              have l1 := HVl.out
              have hsz6 : w.heap.size ≤ (v6.alloc (.cells #[.int .i64 id, .int .i64 ep, .slice P (min pn 66) pc, .int .i64 sz, .int .i64 lv, .int .i64 ct, .string (lo.extract 0 (min lo.size 70)), .string (hi.extract 0 (min hi.size 70)), .int .i64 tp] 35)).heap.size := by have := HBd.out.size; have := h6.size; have := ha6.size; omega
              exact ⟨⟨hg8.below (below_next (below_next HBd.out h6) ha6) hsz6 (fun g hg => by have := hfar g hg; omega),
                ((HXd.out.below h6).below ha6).grown hg8.grew (fun e => by have := hfar _ e; omega),
                ((HRd.out.below h6).below ha6).grown hg8.grew (fun e => by have := hfar _ e; omega),
                ((HVd.out.below h6).below ha6).grown hg8.grew (fun e => by have := hfar _ e; omega),
                ((HOd.out.below h6).below ha6).grown hg8.grew (.inr fun g hg e => by have := hfar g hg; have := HOb.out g e; omega)⟩, hg8.grew.size⟩))
            go_wp2_with fail
            obtain ⟨e0, e1, e2, e3, e4, e5, e6, e7, e8⟩ := HC.out _ HBd.out
            have x3 := HXd.out.at_ 3 rfl
            have v3 := HVd.out.at_ 3 rfl
            refine wp_region_T (fun W => W.cell? ⟨w.heap.size, 3, none⟩ = some (.slice (some ⟨b, o, none⟩) m d) ∧ W.cell? ⟨b, o + j * 9, none⟩ = some (.int .i64 id) ∧ W.cell? ⟨b, o + j * 9 + 1, none⟩ = some (.int .i64 ep) ∧ W.cell? ⟨b, o + j * 9 + 2, none⟩ = some (.slice P pn pc) ∧ W.cell? ⟨b, o + j * 9 + 3, none⟩ = some (.int .i64 sz) ∧ W.cell? ⟨b, o + j * 9 + 4, none⟩ = some (.int .i64 lv) ∧ W.cell? ⟨b, o + j * 9 + 5, none⟩ = some (.int .i64 ct) ∧ W.cell? ⟨b, o + j * 9 + 6, none⟩ = some (.string lo) ∧ W.cell? ⟨b, o + j * 9 + 7, none⟩ = some (.string hi) ∧ W.cell? ⟨b, o + j * 9 + 8, none⟩ = some (.int .i64 tp)) (fun W => W.cell? ⟨vb, 3, none⟩ = some (.slice B' j d')) 9 (by kernel_rfl) ?_
            have hS0 := hd_ (show wr.drew.cell? ⟨w.heap.size, 3, none⟩ = some (.slice (some ⟨b, o, none⟩) m d) ∧ wr.drew.cell? ⟨b, o + j * 9, none⟩ = some (.int .i64 id) ∧ wr.drew.cell? ⟨b, o + j * 9 + 1, none⟩ = some (.int .i64 ep) ∧ wr.drew.cell? ⟨b, o + j * 9 + 2, none⟩ = some (.slice P pn pc) ∧ wr.drew.cell? ⟨b, o + j * 9 + 3, none⟩ = some (.int .i64 sz) ∧ wr.drew.cell? ⟨b, o + j * 9 + 4, none⟩ = some (.int .i64 lv) ∧ wr.drew.cell? ⟨b, o + j * 9 + 5, none⟩ = some (.int .i64 ct) ∧ wr.drew.cell? ⟨b, o + j * 9 + 6, none⟩ = some (.string lo) ∧ wr.drew.cell? ⟨b, o + j * 9 + 7, none⟩ = some (.string hi) ∧ wr.drew.cell? ⟨b, o + j * 9 + 8, none⟩ = some (.int .i64 tp) from ⟨x3, e0, e1, e2, e3, e4, e5, e6, e7, e8⟩)
            have hT0 := hd_ (show wr.drew.cell? ⟨vb, 3, none⟩ = some (.slice B' j d') from v3)
            clear x3 v3 e0 e1 e2 e3 e4 e5 e6 e7 e8
            refine tkT (i := 0) hS0.out (fun _ => hT0.out) ?_; try walk_nrm
            refine tkW (i := 1) hS0.out hT0.out ?_; try walk_nrm
            refine tkT (i := 2) hS0.out (fun _ => hT0.out) ?_; try walk_nrm
            refine tkT (i := 3) hS0.out (fun _ => hT0.out) ?_; try walk_nrm
            refine tkT (i := 4) hS0.out (fun _ => hT0.out) ?_; try walk_nrm
            refine tkT (i := 5) hS0.out (fun _ => hT0.out) ?_; try walk_nrm
            refine tkT (i := 6) hS0.out (fun _ => hT0.out) ?_; try walk_nrm
            refine wpAnyT_one (i := 7) (by kernel_rfl) rfl (fun K hK => ?_)
            try walk_nrm
            rw [if_pos (by rfl)]
            go_simp
            refine (ltable_any id ep P pn pc sz lv ct lo hi tp ps wr.drew HPd.out hls hhs).mono ?_
            rintro e v6 ⟨rfl, hb6⟩
            have HB6 := hd_ (below_next HBd.out hb6)
            have x6 := (HXd.out.below hb6).at_ 3 rfl
            have v6c := (HVd.out.below hb6).at_ 3 rfl
            obtain ⟨d0, d1, d2, d3, d4, d5, d6, d7, d8⟩ := HC.out _ HB6.out
            have hS6 := hd_ (And.intro x6 (And.intro d0 (And.intro d1 (And.intro d2 (And.intro d3 (And.intro d4 (And.intro d5 (And.intro d6 (And.intro d7 d8)))))))))
            have hT6 := hd_ v6c
            clear x6 v6c d0 d1 d2 d3 d4 d5 d6 d7 d8
            refine hK.out _ _ hS6.out (fun _ => hT6.out) ?_
            clear hK
            try walk_nrm
            refine wpAnyT_one (i := 8) (by kernel_rfl) rfl (fun K hK => ?_)
            try walk_nrm
            rw [if_pos (by rfl)]
            go_simp
            have ha6 : Below v6.heap.size v6 (v6.alloc (.cells #[.int .i64 id, .int .i64 ep, .slice P (min pn 66) pc, .int .i64 sz, .int .i64 lv, .int .i64 ct, .string (lo.extract 0 (min lo.size 70)), .string (hi.extract 0 (min hi.size 70)), .int .i64 tp] 35)) := (Below.refl _ _).alloc (Nat.le_refl _) _
            have HB7 := hd_ (below_next HB6.out ha6)
            have x7 := ((HXd.out.below hb6).below ha6).at_ 3 rfl
            have v7c := ((HVd.out.below hb6).below ha6).at_ 3 rfl
            obtain ⟨d0, d1, d2, d3, d4, d5, d6, d7, d8⟩ := HC.out _ HB7.out
            have hS7 := hd_ (And.intro x7 (And.intro d0 (And.intro d1 (And.intro d2 (And.intro d3 (And.intro d4 (And.intro d5 (And.intro d6 (And.intro d7 d8)))))))))
            have hT7 := hd_ v7c
            clear x7 v7c d0 d1 d2 d3 d4 d5 d6 d7 d8
            refine hK.out _ _ hS7.out (fun _ => hT7.out) ?_
            clear hK
            try walk_nrm
            refine wpAnyT_one (i := 9) (by kernel_rfl) rfl (fun K hK => ?_)
            have HO7 := hd_ ((HTd.out.below hb6).below ha6)
            have hr7 := rd_tab v6 (⟨id, ep, P, min pn 66, pc, sz, lv, ct, lo.extract 0 (min lo.size 70), hi.extract 0 (min hi.size 70), tp⟩ : Pk.Tb) 35
            have hb7 : tb ≤ (v6.alloc (.cells #[.int .i64 id, .int .i64 ep, .slice P (min pn 66) pc, .int .i64 sz, .int .i64 lv, .int .i64 ct, .string (lo.extract 0 (min lo.size 70)), .string (hi.extract 0 (min hi.size 70)), .int .i64 tp] 35)).heap.size := Nat.le_trans (Nat.le_trans (Nat.le_trans hst hbd.size) hb6.size) ha6.size
            refine step_appN manyAT (by rfl) 61 rfl (.tmp 53) (.tmp 60) rfl rfl HO7.out (some ⟨v6.heap.size, 0, none⟩) 1 1 [.int .i64 id, .int .i64 ep, .slice P (min pn 66) pc, .int .i64 sz, .int .i64 lv, .int .i64 ct, .string (lo.extract 0 (min lo.size 70)), .string (hi.extract 0 (min hi.size 70)), .int .i64 tp] (Ed.tb_one (⟨id, ep, P, min pn 66, pc, sz, lv, ct, lo.extract 0 (min lo.size 70), hi.extract 0 (min hi.size 70), tp⟩ : Pk.Tb)) rfl hr7 (by omega) hb7 ?_
            intro P8 c8 v8 hg8
            obtain ⟨⟨hB8, hX8, hR8, hV8, hL8⟩, hz8⟩ := HSt.out P8 c8 v6 v8 hb6 hg8
            have HB8 := hd_ hB8
            have HX8 := hd_ hX8
            have HR8 := hd_ hR8
            have HV8 := hd_ hV8
            have HL8 := hd_ hL8
            have HO8 := hd_ hg8.own
            have hz9 : tb ≤ v8.heap.size := Nat.le_trans hb7 hz8
            have x8 := HX8.out.at_ 3 rfl
            obtain ⟨d0, d1, d2, d3, d4, d5, d6, d7, d8⟩ := HC.out _ HB8.out
            have hS8 := hd_ (And.intro x8 (And.intro d0 (And.intro d1 (And.intro d2 (And.intro d3 (And.intro d4 (And.intro d5 (And.intro d6 (And.intro d7 d8)))))))))
            clear hS0 hT0 hS6 hT6 hS7 hT7 HB6 HB7 HO7 hr7 hb7 ha6 hb6 hg8 hB8 hX8 hR8 hV8 hL8 x8 d0 d1 d2 d3 d4 d5 d6 d7 d8
            refine hK.out _ _ hS8.out (fun h => Bool.noConfusion (h : true = false)) ?_
            clear hK
            try walk_nrm
            refine wpAnyT_take (i := 10) (v := ?_) rfl (by kernel_rfl) (by kernel_rfl) (by kernel_rfl) rfl (fun _ _ _ h => h) (Or.inl ⟨by rfl, ?_⟩) hS8.out (fun h => Bool.noConfusion (h : true = false)) ?_
            rotate_left
            · intro W hSW; (try dsimp only at hSW); go_simp; (try with_reducible rfl)
            try walk_nrm
            refine wpAnyT_one (i := 11) (by kernel_rfl) rfl (fun K hK => ?_)
            try walk_nrm
            rw [if_pos (by rfl)]
            have p8 := HV8.out.at_ 3 rfl
            have q8 := HV8.out.2.2 3
            go_simp
            have HG9 := hd_ (grown_cell v8 vb 3 (.slice P8 (j + 1) c8))
            have HX9 := hd_ (HX8.out.grown HG9.out (fun e => by injection e with e; exact HVl.out.1 e))
            have HR9 := hd_ (HR8.out.grown HG9.out (fun e => by injection e with e; exact HVl.out.2.1 e))
            have HV9 := hd_ (show Holds (v8.setCell ⟨vb, 3, none⟩ (.slice P8 (j + 1) c8)) vb [.int .i64 nx, .int .i64 sq, .slice A' k c', .slice P8 (j + 1) c8] from HV8.out.set 3 _ (by simp))
            have HB9 := hd_ (HB8.out.grown HG9.out HB8.out.size (fun g e => by injection e with e; have := HVl.out; omega))
            have hsn : Pk.flat ((M.take (j + 1)).map fun x => (Ed.cutT x).1) = Pk.flat ((M.take j).map fun x => (Ed.cutT x).1) ++ [.int .i64 id, .int .i64 ep, .slice P (min pn 66) pc, .int .i64 sz, .int .i64 lv, .int .i64 ct, .string (lo.extract 0 (min lo.size 70)), .string (hi.extract 0 (min hi.size 70)), .int .i64 tp] := by rw [List.take_add_one, HY.out]; simp [Pk.flat, Ed.cutT, Pk.Tb.cells]
            have HO9 := hd_ (HO8.out.grown HG9.out (.inr fun g hg e => by injection hg with hg; have := (HO8.out.blk g e).1; have := HVl.out; omega))
            have HL9 := hd_ (HL8.out.grown HG9.out (.inr fun g hg e => by injection hg with hg; have := (HL8.out.blk g e).1; have := HVl.out; omega))
            rw [← hsn] at HO9
            have x9 := HX9.out.at_ 3 rfl
            obtain ⟨d0, d1, d2, d3, d4, d5, d6, d7, d8⟩ := HC.out _ HB9.out
            have hz10 : tb ≤ (v8.setCell ⟨vb, 3, none⟩ (.slice P8 (j + 1) c8)).heap.size := Nat.le_trans hz9 HG9.out.size
            refine hK.out _ _ (And.intro x9 (And.intro d0 (And.intro d1 (And.intro d2 (And.intro d3 (And.intro d4 (And.intro d5 (And.intro d6 (And.intro d7 d8))))))))) (fun h => Bool.noConfusion (h : true = false)) ?_
            clear hK hsn p8 q8 x9 d0 d1 d2 d3 d4 d5 d6 d7 d8 hS8 HG9 HX8 HR8 HV8 HB8 HO8 HL8
            generalize (v8.setCell ⟨vb, 3, none⟩ (.slice P8 (j + 1) c8)) = v9 at *
            refine wpAnyT_done (by kernel_rfl) ?_ _
            go_wp2_with fail
            go_roundw
            case rel => exact ⟨j + 1, P8, c8, by omega, by omega, by go_num, HX9, HR9, HV9, HL9, HO9, HB9, hz10⟩
            case measure => simp [intOf]; omega
          · have hjm : j = min m 130 := by omega
            have hcase : (¬ (j : Int) < (m : Int)) ∨ ((j : Int) < (m : Int) ∧ ¬ (j : Int) < 130) := by omega
            have HJm := hd_ hjm
            have a3 := HX.out.at_ 3 rfl
            obtain ⟨v0, v1, v2, v3⟩ := HV.out.all4
            obtain ⟨r0, r1, r2, r3⟩ := HR.out.all4
            obtain ⟨f0, f1, f2, f3⟩ := HR.out.free4
            have HG := hd_ ((grown_cell wr (w.heap.size + 1) 0 (.int .i64 nx)).trans ((grown_cell _ (w.heap.size + 1) 1 (.int .i64 sq)).trans ((grown_cell _ (w.heap.size + 1) 2 (.slice A' k c')).trans (grown_cell _ (w.heap.size + 1) 3 (.slice B' j d')))))
            have HF := hd_ (show Holds ((((wr.setCell ⟨w.heap.size + 1, 0, none⟩ (.int .i64 nx)).setCell ⟨w.heap.size + 1, 1, none⟩ (.int .i64 sq)).setCell ⟨w.heap.size + 1, 2, none⟩ (.slice A' k c')).setCell ⟨w.heap.size + 1, 3, none⟩ (.slice B' j d')) (w.heap.size + 1) [.int .i64 nx, .int .i64 sq, .slice A' k c', .slice B' j d'] from (((HR.out.set 0 _ (by simp)).set 1 _ (by simp)).set 2 _ (by simp)).set 3 _ (by simp))
            have HBf := hd_ (HB.out.grown HG.out HB.out.size (fun g e => by injection e with e; omega))
            have HOf := hd_ (HO.out.grown HG.out (.inr fun g hg e => by injection hg with hg; have := (HO.out.blk g e).1; have := HVl.out; omega))
            have HTf := hd_ (HT.out.grown HG.out (.inr fun g hg e => by injection hg with hg; have := (HT.out.blk g e).1; have := HVl.out; omega))
            clear hlt hjm
            rcases hcase with h1 | ⟨h1, h2⟩
            all_goals
              go_wp2_with fail
              clear v0 v1 v2 v3 r0 r1 r2 r3 f0 f1 f2 f3 a3 HG
              generalize ((((wr.setCell ⟨w.heap.size + 1, 0, none⟩ (.int .i64 nx)).setCell ⟨w.heap.size + 1, 1, none⟩ (.int .i64 sq)).setCell ⟨w.heap.size + 1, 2, none⟩ (.slice A' k c')).setCell ⟨w.heap.size + 1, 3, none⟩ (.slice B' j d')) = zz at *
              obtain ⟨y0, y1, y2, y3⟩ := HF.out.all4
              refine bodyPost_ret (v := .agg #[.int .i64 nx, .int .i64 sq, .slice A' k c', .slice B' j d']) ?_ rfl ⟨A', c', B', d', by rw [HKm.out, HJm.out], rdls_cut HL0.out HBf.out (by have h := HOf.out; rw [HKm.out] at h; exact h), rdts_cut HM0.out HBf.out (by have h := HTf.out; rw [HJm.out] at h; exact h), HBf.out, (by have h := HOf.out; rw [HKm.out] at h; exact h.base_ (Nat.le_of_lt HVl.out.2.2.2.2.1)), (by have h := HTf.out; rw [HJm.out] at h; exact h.base_ (Nat.le_trans (Nat.le_of_lt HVl.out.2.2.2.2.1) hsz2))⟩
              simp [results, Tryz.results7, go_sem, y0, y1, y2, y3]
end Go.Proofs.YthfcjlndaajkfaaGreat
