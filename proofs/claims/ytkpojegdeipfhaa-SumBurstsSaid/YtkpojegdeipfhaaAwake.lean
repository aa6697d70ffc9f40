/- The example at the head of each statement of layer 1 returns true. No condition. -/
import Derived.Test.YtkpojegdeipfhaaROpen
import Derived.Test.YtkpojegdeipfhaaBent
import Derived.Lib.SlBytesConst
namespace Go.Proofs.Ytkpojegdeipfhaa
open Go.RowKit
theorem rd_new (w : World) (l : List Nat) (hl : ∀ x ∈ l, x < 256) (fr : Nat × Nat) : Rd (w.alloc (.cells (bv l).toArray 5 fr)) (some ⟨w.heap.size, 0, none⟩) l.length l := by
  refine ⟨rfl, hl, fun hn => ⟨w.heap.size, 0, rfl, by simp, fun j x hx => ?_⟩⟩
  rw [Nat.zero_add, World.cell?_alloc_mark]
  have := bv_at hx
  simpa using this
theorem Own.cap {w : World} {base n cap : Nat} {A : Option Addr} {l : List Nat} (h : Own w base A n cap l) : n ≤ cap := by
  rcases h.2.2.2 with ⟨hv, hn⟩ | ⟨g, c, cur, hv, _, _, hc, _⟩
  · omega
  · injection hv with _ _ h3
    omega
theorem awake_seal : Cr.opened (Cr.sealed [97, 98]) = some [97, 98] := by decide +kernel
theorem awake_open : Cr.opened [1, 2, 3, 4, 5] = none := by decide +kernel
theorem awake9 : Cr.more 0 [49, 50, 51, 52, 53, 54, 55, 56, 57] = 3808858755 := by decide +kernel
theorem awake4 : Cr.more 0 [49, 50, 51, 52] < 4294967296 ∧ Cr.more 0 [53, 54, 55, 56, 57] < 4294967296 := by decide +kernel
theorem awakeJ : Cr.steps (8 * len20 5) (Cr.more 0 [49, 50, 51, 52]) ^^^ Cr.more 0 [53, 54, 55, 56, 57] = 3808858755 := by decide +kernel
theorem strab : str [97, 98] = { data := #[97, 98] } := by decide +kernel
set_option maxRecDepth 100000 in
theorem awake_any (w : World) : Calls Try.prog 16 #[] w fun e w' => e = .returned (.bool true) ∧ Below w.heap.size w w' := by
  have kc := fun (w : World) (C : Array Value) (n c : Nat) => Lib.run_convert_bytes_const (P := Try.prog) w 22 5 C n c Try.underlying22 Try.underlying5
  go_enter Try.func16, Try.ntmps16
  go_wp2_with fail
  refine (seal_any _ 2 2 [97, 98] _ (rd_new w [97, 98] (by decide) (2, 3)) (by omega)).mono ?_
  rintro e w1 ⟨A1, cap1, rfl, ho1, hb1⟩
  go_wp2_with fail
  have h2 := open_any A1 _ cap1 _ w1 ho1.rd ho1.cap (by decide)
  rw [awake_seal] at h2
  have H2 := Lib.hid h2
  clear h2
  refine H2.out.mono ?_
  rintro e w2 ⟨A2, cap2, rfl, ho2, hb2⟩
  go_wp2_with fail
  have h3 := open_any _ _ 5 _ _ (rd_new w2 [1, 2, 3, 4, 5] (by decide) (0, 0)) (Nat.le_refl _) (by decide)
  rw [awake_open] at h3
  have H3 := Lib.hid h3
  clear h3
  refine H3.out.mono ?_
  rintro e w3 ⟨rfl, hb3⟩
  go_wp2_with fail
  have h4 := of_any _ _ 9 _ _ (rd_new w3 [49, 50, 51, 52, 53, 54, 55, 56, 57] (by decide) (9, 10)) (by decide)
  rw [awake9] at h4
  have H4 := Lib.hid h4
  clear h4
  refine H4.out.mono ?_
  rintro e w4 ⟨rfl, hb4⟩
  go_wp2_with fail
  have h5 := of_any _ _ 4 _ _ (rd_new w4 [49, 50, 51, 52] (by decide) (4, 5)) (by decide)
  have H5 := Lib.hid h5
  clear h5
  refine H5.out.mono ?_
  rintro e w5 ⟨rfl, hb5⟩
  go_wp2_with fail
  have h6 := of_any _ _ 5 _ _ (rd_new w5 [53, 54, 55, 56, 57] (by decide) (5, 6)) (by decide)
  have H6 := Lib.hid h6
  clear h6
  refine H6.out.mono ?_
  rintro e w6 ⟨rfl, hb6⟩
  have ho6 := (((((ho2.alloc _).below hb3).alloc _).below hb4).alloc _ |>.below hb5).alloc _ |>.below hb6
  have hbl : Below w.heap.size w w6 := by
    have s1 := ((Below.refl w.heap.size w).alloc (Nat.le_refl _) _).trans (hb1.mono (by simp))
    have s2 := s1.trans (hb2.mono s1.size)
    have s3 := (s2.alloc s2.size _).trans (hb3.mono (s2.alloc s2.size _).size)
    have s4 := (s3.alloc s3.size _).trans (hb4.mono (s3.alloc s3.size _).size)
    have s5 := (s4.alloc s4.size _).trans (hb5.mono (s4.alloc s4.size _).size)
    exact (s5.alloc s5.size _).trans (hb6.mono (s5.alloc s5.size _).size)
  have hcv : (convert 22 9 (.slice A2 2 cap2)).run Try.prog w6 = .ok (.string { data := #[97, 98] }) w6 := by
    have h := run_str (cap := cap2) ho6.rd
    rw [strab] at h
    exact h
  have Hbl := Lib.hid hbl
  clear hbl ho6 hb1 hb2 hb3 hb4 hb5 hb6 ho1 ho2 kc
  go_wp2_with fail
  refine (join_any _ _ 5 awake4.1 awake4.2 _).mono ?_
  rintro e w7 ⟨rfl, rfl⟩
  have hj : ((Cr.steps (8 * len20 5) (Cr.more 0 [49, 50, 51, 52]) ^^^ Cr.more 0 [53, 54, 55, 56, 57] : Nat) : Int) = 3808858755 := by rw [awakeJ]; rfl
  go_wp2_with fail
  go_ret
  exact ⟨rfl, Hbl.out⟩
end Go.Proofs.Ytkpojegdeipfhaa
