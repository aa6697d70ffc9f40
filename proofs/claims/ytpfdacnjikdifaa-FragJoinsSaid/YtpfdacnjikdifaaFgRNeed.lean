/- The document's Need; the law's few. -/
import Derived.Test.YtpfdacnjikdifaaFgRCut
import Derived.Test.YtpfdacnjikdifaaFgNeed
namespace Go.Proofs.Ytpfdacnjikdifaa
open Go.RowKit
set_option linter.unusedVariables false
theorem OwnB.start (w : World) (X : Nat → Prop) : OwnB w w.heap.size none 0 0 [] X := OwnB.none_ _ _ _
theorem zerosOf_snoc {zs : List Int} {k : Nat} {z : Int} (h : zs[k]? = some z) : Fg.zerosOf (zs.take (k + 1)) = Fg.zerosOf (zs.take k) ++ [List.replicate z.toNat 0] := by
  unfold Fg.zerosOf; rw [List.take_add_one, h]; simp
theorem zerosOf_long {zs : List Int} (h : Fg.bad zs = 0) : Fg.long (Fg.zerosOf zs) = false := by
  cases hl : Fg.long (Fg.zerosOf zs) with
  | false => rfl
  | true =>
    unfold Fg.long at hl
    rw [List.any_eq_true] at hl
    obtain ⟨x, hx, h8⟩ := hl
    have := Fg.zerosOf_max h x hx
    simp at h8; omega
set_option maxRecDepth 100000 in
set_option maxHeartbeats 4000000 in
theorem rneed_any (A : Option Addr) (n c : Nat) (zs : List Int) (w : World) (hr : RdZ w A n zs) (hn : n ≤ 300) (hz : ∀ z ∈ zs, -9223372036854775808 ≤ z ∧ z ≤ 9223372036854775807) :
    Calls Try.prog 15 #[.slice A n c] w fun e w' => e = .returned (.tuple #[.int .i64 (Fg.need zs).1, .int .i64 (Fg.need zs).2]) ∧ Below w.heap.size w w' := by
  have hl := hr.1
  by_cases hbig : 256 < n
  · have hnd : Fg.need zs = (0, 3) := by unfold Fg.need; rw [if_pos (by omega)]
    rw [hnd]
    have hbi : (256 : Int) < (n : Int) := by omega
    clear hr hl hz hnd
    go_enter Try.func15, Try.ntmps15
    go_wp2
    go_ret2
    exact ⟨rfl, Below.refl _ _⟩
  · have hbi : ¬ (256 : Int) < (n : Int) := by omega
    have HR := Lib.hid hr
    have HL := Lib.hid hl
    have HZ := Lib.hid hz
    have HB := Lib.hid hbig
    clear hr hl hz hbig
    go_enter Try.func15, Try.ntmps15
    go_wp2
    go_loopw [4, 5] (fun s ii wr => ∃ (k : Nat) (B : Option Addr) (d : Nat), k ≤ n ∧ ii = .int .i64 (k : Int) ∧ s = .slice B k d ∧ Hid (Fg.bad (zs.take k) = 0) ∧ OwnB wr w.heap.size B k d (Fg.zerosOf (zs.take k)) (fun _ => True) ∧ Below w.heap.size w wr) (fun _ ii _ => n - (intOf ii).toNat)
    case atStart => exact ⟨0, none, 0, Nat.zero_le _, rfl, rfl, Lib.hid rfl, OwnB.start _ _, Below.refl _ _⟩
    case round =>
      obtain ⟨k, B, d, hk, rfl, rfl, hb, hO, hBl⟩ := hrel
      by_cases hkn : k < n
      · obtain ⟨z, hzk⟩ : ∃ z, zs[k]? = some z := ⟨zs[k]'(by rw [HL.out]; exact hkn), List.getElem?_eq_getElem _⟩
        obtain ⟨g, o, rfl, hg, hcl⟩ := HR.out.2 (by omega)
        have hcell := (hBl.cell (p := ⟨g, o + k, none⟩) hg).trans (hcl k z hzk)
        have hki : (k : Int) < (n : Int) := by omega
        have hzb := HZ.out z (List.mem_of_getElem? hzk)
        have hat := Fg.bad_at hzk hb.out
        clear hcl
        by_cases h1 : z < 0
        · rw [if_pos h1] at hat
          have hnd : Fg.need zs = (0, 1) := by unfold Fg.need; rw [if_neg (by rw [HL.out]; exact HB.out), if_neg (by rw [hat]; decide), hat]
          have HNd := Lib.hid hnd
          have HBl := Lib.hid hBl
          clear hat hnd hzk hO hBl
          go_wp2
          go_ret2
          rw [HNd.out]
          exact ⟨rfl, HBl.out⟩
        · rw [if_neg h1] at hat
          by_cases h2 : 8192 < z
          · rw [if_pos h2] at hat
            have hnd : Fg.need zs = (0, 2) := by unfold Fg.need; rw [if_neg (by rw [HL.out]; exact HB.out), if_neg (by rw [hat]; decide), hat]
            have HNd := Lib.hid hnd
            have HBl := Lib.hid hBl
            clear hat hnd hzk hO hBl
            go_wp2
            go_ret2
            rw [HNd.out]
            exact ⟨rfl, HBl.out⟩
          · have hnx := Fg.bad_next hzk hb.out h1 h2
            have hsn := zerosOf_snoc hzk
            obtain ⟨m, rfl⟩ := Int.eq_ofNat_of_zero_le (show 0 ≤ z by omega)
            have hm : m ≤ 8192 := by omega
            have hmk := make_all m (by omega)
            have hrb := hO.blk
            obtain ⟨vs, hrow, hit⟩ := hO.row
            have hbase := hBl.size
            -- the zeros, and the cell that is put behind
            have hz0 := Own.zeros wr w.heap.size m hBl.size (by omega)
            have hb1 : Below wr.heap.size wr (wr.alloc (.cells (madeCells #[.int .u8 0] m) 5)) := (Below.refl _ _).alloc (Nat.le_refl _) _
            have hsz1 : (wr.alloc (.cells (madeCells #[.int .u8 0] m) 5)).heap.size = wr.heap.size + 1 := by simp
            have hitem : Item (wr.alloc (.cells (madeCells #[.int .u8 0] m) 5)) (fun b => True ∧ some b ≠ (Value.slice B k d).ownBlock) (.slice (some ⟨wr.heap.size, 0, none⟩) m m) (List.replicate m 0) := by
              refine ⟨some ⟨wr.heap.size, 0, none⟩, m, by rw [List.length_replicate], by rw [List.length_replicate]; exact hz0.rd, by rw [List.length_replicate]; exact Nat.le_refl _, by rw [List.length_replicate]; omega, fun b o e _ => ⟨trivial, ?_⟩⟩
              injection e with e; injection e with e1 _
              intro e2
              have := (hrb b e2.symm).2
              omega
            have hrow1 := hrow.below hb1
            have hit1 := hit.below hb1
            have hBl1 := hBl.trans (hb1.mono hBl.size)
            have HSn := Lib.hid hsn
            rw [Int.toNat_natCast] at HSn
            have HNx := Lib.hid hnx
            have hml : (List.replicate m 0).length = m := List.length_replicate
            have hra := rdv_one (wr.alloc (.cells (madeCells #[.int .u8 0] m) 5)) 29 (.slice (some ⟨wr.heap.size, 0, none⟩) m m)
            have hb2 : Below (wr.alloc (.cells (madeCells #[.int .u8 0] m) 5)).heap.size (wr.alloc (.cells (madeCells #[.int .u8 0] m) 5)) ((wr.alloc (.cells (madeCells #[.int .u8 0] m) 5)).alloc (.cells #[.slice (some ⟨wr.heap.size, 0, none⟩) m m] 29)) := (Below.refl _ _).alloc (Nat.le_refl _) _
            have hrow2 := hrow1.below hb2
            have hit2 := hit1.below hb2
            have hitem2 := hitem.below hb2
            have hBl2 := hBl1.trans (hb2.mono hBl1.size)
            have hone : ∀ u ∈ [Value.slice (some ⟨wr.heap.size, 0, none⟩) m m], u.oneCell' = true := by intro u hu; rw [List.mem_singleton] at hu; subst hu; rfl
            have hn1 : k + 1 ≤ 1000000 := by omega
            have hba := hBl2.size
            rw [hsz1] at hra
            have HIt := Lib.hid hit2
            have HIm := Lib.hid hitem2
            have HB2 := Lib.hid hBl2
            have HRb := Lib.hid hrb
            have HRow := Lib.hid hrow2
            clear hat hnx hzk hO hBl hrow hit hz0 hb1 hitem hrow1 hit1 hBl1 hsn hb2 hit2 hitem2 hBl2 hrb hsz1 hml
            go_wp2_with (first | (at_builtin; refine wpList_appV oneB rfl (.tmp 27) (.tmp 33) rfl rfl hrow2 (some ⟨wr.heap.size + 1, 0, none⟩) 1 1 [.slice (some ⟨wr.heap.size, 0, none⟩) m m] hone rfl hra hn1 hba ?_; intro A8 c8 v8 hg8))
            have hO8 := OwnB.snoc HRow.out HIt.out HIm.out hg8
            have hB8 := hg8.below HB2.out hba (fun g h => (HRb.out g h).1)
            rw [← HSn.out] at hO8
            clear hg8
            go_roundw
            case rel => exact ⟨k + 1, A8, c8, by omega, by go_num, rfl, HNx, hO8, hB8⟩
            case measure => simp [intOf]; omega
      · have hkn2 : k = n := by omega
        subst hkn2
        have hb0 : Fg.bad zs = 0 := by have := hb.out; rw [List.take_of_length_le (Nat.le_of_eq HL.out)] at this; exact this
        rw [List.take_of_length_le (Nat.le_of_eq HL.out)] at hO
        have hcut := rcut_any B k d (Fg.zerosOf zs) wr hO.rd
        have hco : Fg.cutOut (Fg.zerosOf zs) = (Fg.cut (Fg.zerosOf zs), 0) := by
          unfold Fg.cutOut
          rw [if_neg (by rw [Fg.zerosOf_len, HL.out]; exact HB.out), zerosOf_long hb0]
          rfl
        rw [hco] at hcut
        have hnd : Fg.need zs = (((Fg.cut (Fg.zerosOf zs)).length : Int), 0) := by unfold Fg.need; rw [if_neg (by rw [HL.out]; exact HB.out), if_pos hb0]
        have HNd := Lib.hid hnd
        have HCut := Lib.hid hcut
        have HBl := Lib.hid hBl
        clear hb hb0 hnd hcut hco hO hBl hkn hk
        go_wp2_with fail
        refine HCut.out.mono ?_
        rintro e9 v9 ⟨A9, c9, rfl, _, _, hb9⟩
        have hB9 := below_next HBl.out hb9
        go_wp2_with fail
        go_ret2
        rw [HNd.out]
        exact ⟨rfl, hB9⟩
end Go.Proofs.Ytpfdacnjikdifaa
