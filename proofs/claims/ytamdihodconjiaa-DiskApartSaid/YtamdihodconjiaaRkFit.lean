/- The document's Fit. -/
import Derived.Test.YtamdihodconjiaaRkLoose
import Derived.Test.YtamdihodconjiaaDkCrash
import Derived.BigRegion
namespace Go.Proofs.Ytamdihodconjiaa
open Go.RowKit
set_option linter.unusedVariables false
/-- Fates that may be of the loose sectors, as many as there are of both. -/
def Fits (l : List (Nat × Nat)) (k : Nat) (fs : List Dk.Fa) : Prop := fs.length = k ∧ ∀ (i : Nat) (f : Dk.Fa) (x : Nat × Nat), fs[i]? = some f → l[i]? = some x → f.ok x.2
def GivesFit (w : World) (l : List (Nat × Nat)) (k : Nat) (e : Ending) (w' : World) : Prop :=
  ∃ A cap fs, e = .returned (.slice A k cap) ∧ OwnC 2 w' w.heap.size 55 A k cap (flatFa fs) ∧ Fits l k fs ∧ Below w.heap.size w w'
set_option maxRecDepth 100000 in
theorem manyFa : Many 2 36 55 (.agg #[.int .i64 0, .int .i64 0]) 16 := ⟨by kernel_rfl, Try.underlying36, rfl, by omega, by omega⟩
theorem flatFa_snoc (l : List Dk.Fa) (x : Dk.Fa) : flatFa (l ++ [x]) = flatFa l ++ [.int .i64 x.k, .int .i64 x.c] := by unfold flatFa; rw [List.flatMap_append]; simp
theorem Fits.snoc {l : List (Nat × Nat)} {k : Nat} {fs : List Dk.Fa} (h : Fits l k fs) {f : Dk.Fa} {x : Nat × Nat} (hx : l[k]? = some x) (hf : f.ok x.2) : Fits l (k + 1) (fs ++ [f]) := by
  refine ⟨by rw [List.length_append, h.1]; rfl, fun i g y h1 h2 => ?_⟩
  by_cases e : i < k
  · rw [List.getElem?_append_left (by rw [h.1]; exact e)] at h1
    exact h.2 i g y h1 h2
  · have hi : i = k := by
      have := (List.getElem?_eq_some_iff.1 h1).1
      rw [List.length_append, h.1] at this
      simp at this
      omega
    subst hi
    rw [List.getElem?_append_right (by rw [h.1]; exact Nat.le_refl _), h.1, Nat.sub_self] at h1
    simp at h1
    subst h1
    rw [hx] at h2
    injection h2 with h2
    subst h2
    exact hf
theorem setCell_grown (w : World) (p : Addr) (u : Value) : w.grownBy (w.setCell p u) (some p.block) := ⟨rfl, rfl, rfl, by simp [World.setCell], fun k _ hk => Below.heap_setCell _ _ _ _ (fun e => hk (by rw [e]))⟩
theorem wrap_u64 (z : Int) : ∃ U : Nat, IntKind.u64.wrap z = (U : Int) := ⟨(z % 18446744073709551616).toNat, by
  have : IntKind.u64.wrap z = z % 18446744073709551616 := by simp [IntKind.wrap, IntKind.signed, IntKind.bits]
  rw [this]
  omega⟩
set_option maxRecDepth 100000 in
set_option maxHeartbeats 4000000 in
theorem fit_any (A : Option Addr) (n cap : Nat) (l : List (Nat × Nat)) (B : Option Addr) (m cb : Nat) (fs : List Dk.Fa) (w : World) (hl : RdC 2 w A n (flat2 l)) (hln : l.length = n) (hsm : ∀ x ∈ l, x.2 ≤ 2000) (hf : RdC 2 w B m (flatFa fs)) (hfn : fs.length = m) (hn : n ≤ 10000) (hm : m ≤ 9223372036854775807) :
    Calls Try.prog 23 #[.slice A n cap, .slice B m cb] w (GivesFit w l (min m n)) := by
  have HL := Lib.hid hl
  have HF := Lib.hid hf
  have HLn := Lib.hid hln
  have HFn := Lib.hid hfn
  have HS := Lib.hid hsm
  clear hl hf hln hfn hsm
  go_enter Try.func23, Try.ntmps23
  go_wp2_with fail
  go_loopw [5, 6] (fun v i wr => ∃ (j : Nat) (A1 : Option Addr) (c1 : Nat) (gs : List Dk.Fa), j ≤ m ∧ j ≤ n ∧ v = .slice A1 j c1 ∧ i = .int .i64 (j : Int) ∧ Hid (OwnC 2 wr w.heap.size 55 A1 j c1 (flatFa gs)) ∧ Hid (Fits l j gs) ∧ Hid (Below w.heap.size w wr)) (fun _ i _ => m - (intOf i).toNat)
  case atStart => exact ⟨0, none, 0, [], by omega, by omega, rfl, rfl, Lib.hid (OwnC.none_ _ _ _ _), Lib.hid ⟨rfl, by simp⟩, Lib.hid (Below.refl _ _)⟩
  case round =>
    obtain ⟨j, A1, c1, gs, hjm, hjn, rfl, rfl, HO, HG, HB⟩ := hrel
    have hbs := HB.out.size
    by_cases hj : j < m ∧ j < n
    · obtain ⟨hj1, hj2⟩ := hj
      have hji1 : (j : Int) < (m : Int) := by omega
      have hji2 : (j : Int) < (n : Int) := by omega
      obtain ⟨x, hx⟩ : ∃ x, l[j]? = some x := ⟨_, List.getElem?_eq_getElem (by rw [HLn.out]; exact hj2)⟩
      obtain ⟨f, hf⟩ : ∃ f, fs[j]? = some f := ⟨_, List.getElem?_eq_getElem (by rw [HFn.out]; exact hj1)⟩
      obtain ⟨b1, o1, rfl, hb1, p0, p1⟩ := (HL.out.below HB.out).two hj2 (flat2_at hx).1 (flat2_at hx).2
      obtain ⟨b2, o2, rfl, hb2, q0, q1⟩ := (HF.out.below HB.out).two hj1 (flatFa_at hf).1 (flatFa_at hf).2
      obtain ⟨x1, N⟩ := x
      obtain ⟨fk, fc⟩ := f
      have hN := HS.out _ (List.mem_of_getElem? hx)
      simp only at p0 p1 q0 q1 hN
      have HX := Lib.hid hx
      obtain ⟨U, hU⟩ := wrap_u64 fk
      obtain ⟨V, hV⟩ := wrap_u64 fc
      obtain ⟨R, hR⟩ : ∃ R : Nat, R = U % (N + 1) := ⟨_, rfl⟩
      have hRl : R < N + 1 := by rw [hR]; exact Nat.mod_lt _ (by omega)
      have hRi : (U : Int) % ((N : Int) + 1) = (R : Int) := by rw [hR]; simp
      obtain ⟨Q, hQ⟩ : ∃ Q : Nat, Q = V % 128 := ⟨_, rfl⟩
      have hQl : Q < 128 := by omega
      have hQi : (V : Int) % 128 = (Q : Int) := by omega
      have hNi : (N : Int) ≤ 2000 := by omega
      have hRs : (R : Int) ≤ 2000 := by omega
      have hQs : (Q : Int) < 128 := by omega
      clear hx hf hR hQ
      go_upto_region 5 with fail
      have hx1 : Holds (wr.alloc (.cells #[.int .i64 (R : Int), .int .i64 (Q : Int)] 55)).drew wr.heap.size [.int .i64 (R : Int), .int .i64 (Q : Int)] := Holds.new wr #[.int .i64 (R : Int), .int .i64 (Q : Int)] 55
      have hbx : Below wr.heap.size wr (wr.alloc (.cells #[.int .i64 (R : Int), .int .i64 (Q : Int)] 55)).drew := ((Below.refl _ _).alloc (Nat.le_refl _) _).drew
      have hsx : (wr.alloc (.cells #[.int .i64 (R : Int), .int .i64 (Q : Int)] 55)).drew.heap.size = wr.heap.size + 1 := by show (wr.alloc _).heap.size = _; simp
      have HX1 := Lib.hid hx1
      have HBx := Lib.hid hbx
      have HSx := Lib.hid hsx
      have p1' := (hbx.cell (p := ⟨b1, o1 + j * 2 + 1, none⟩) hb1).trans p1
      clear hx1 hbx hsx
      go_region
      clear p0 q0 q1 p1
      generalize (wr.alloc (.cells #[.int .i64 (R : Int), .int .i64 (Q : Int)] 55)).drew = w1 at *
      have y0 := HX1.out.at_ 0 rfl
      have y1 := HX1.out.at_ 1 rfl
      have z1 := HX1.out.2.2 1
      have HO1 := Lib.hid (HO.out.below HBx.out)
      have HB1 := Lib.hid (HB.out.trans (HBx.out.mono HB.out.size))
      have hlt1 := HX1.out.1
      have hj10 : j + 1 ≤ 1000000 := by omega
      have h1c : ∀ (u : Nat), ∀ v ∈ [Value.int .i64 (R : Int), .int .i64 (u : Int)], v.oneCell' = true := by intro u v hv; simp at hv; rcases hv with rfl | rfl <;> rfl
      clear hU hV hRi hQi
      by_cases hRN : R = N
      · subst hRN
        have hbq : (R == R) = true := by simp
        go_wp2_with fail
        go_region
        have HX3 := Lib.hid (show Holds (w1.setCell ⟨wr.heap.size, 1, none⟩ (.int .i64 0)).drew wr.heap.size [.int .i64 (R : Int), .int .i64 ((0 : Nat) : Int)] from HX1.out.set 1 (.int .i64 0) (by simp))
        have HO3 := Lib.hid (show OwnC 2 (w1.setCell ⟨wr.heap.size, 1, none⟩ (.int .i64 0)).drew w.heap.size 55 A1 j c1 (flatFa gs) from OwnC.drew (HO1.out.grown (row := some wr.heap.size) (setCell_grown w1 ⟨wr.heap.size, 1, none⟩ (.int .i64 0)) (.inr fun g e e2 => by injection e with e; have := (HO.out.blk g e2).2; have e3 : wr.heap.size = g := e; omega)))
        have HB3 := Lib.hid ((HB1.out.setCell (p := ⟨wr.heap.size, 1, none⟩) hbs (.int .i64 0)).drew)
        go_upto_region 8 with fail
        generalize (w1.setCell ⟨wr.heap.size, 1, none⟩ (.int .i64 0)).drew = w3 at *
        clear y0 y1 z1
        have y0 := HX3.out.at_ 0 rfl
        have y1 := HX3.out.at_ 1 rfl
        have hlt3 := HX3.out.1
        have HN2 := Lib.hid (rdc_new 2 w3 55 [.int .i64 (R : Int), .int .i64 ((0 : Nat) : Int)] 1 rfl (0, 0))
        have HO4 := Lib.hid (HO3.out.alloc (.cells #[.int .i64 (R : Int), .int .i64 ((0 : Nat) : Int)] 55))
        have hle2 : w.heap.size ≤ (w3.alloc (.cells #[.int .i64 (R : Int), .int .i64 ((0 : Nat) : Int)] 55)).heap.size := Nat.le_trans HB3.out.size (size_alloc_le _ _)
        have HB4 := Lib.hid (HB3.out.alloc HB3.out.size (.cells #[.int .i64 (R : Int), .int .i64 ((0 : Nat) : Int)] 55))
        have h1c := h1c 0
        go_wp2_with (at_builtin; refine wpList_appC manyFa rfl (.tmp 53) (.tmp 55) rfl rfl HO4.out ⟨w3.heap.size, 0, none⟩ 1 1 [.int .i64 (R : Int), .int .i64 ((0 : Nat) : Int)] h1c rfl HN2.out hj10 hle2 ?_; intro A' cap' w4 hg4)
        have HB5 := Lib.hid (hg4.below HB4.out hle2 (fun g e => (HO4.out.blk g e).1))
        have ho5 := hg4.own
        have HO5 := Lib.hid ho5
        clear hg4 ho5 y0 y1
        go_roundw
        case rel => exact ⟨j + 1, A', cap', gs ++ [⟨(R : Int), ((0 : Nat) : Int)⟩], by omega, by omega, rfl, by go_num, by rw [flatFa_snoc]; exact HO5, Lib.hid (HG.out.snoc HX.out (by show Dk.Fa.ok ⟨(R : Int), ((0 : Nat) : Int)⟩ R; unfold Dk.Fa.ok; simp only; omega)), HB5⟩
        case measure => simp [intOf]; omega
      · have hRNi : ((R : Int) == (N : Int)) = false := by simp; omega
        go_wp2_with fail
        go_region
        have HX3 := Lib.hid (show Holds w1.drew wr.heap.size [.int .i64 (R : Int), .int .i64 (Q : Int)] from HX1.out)
        have HO3 := Lib.hid (show OwnC 2 w1.drew w.heap.size 55 A1 j c1 (flatFa gs) from HO1.out)
        have HB3 := Lib.hid (HB1.out.drew)
        go_upto_region 8 with fail
        generalize w1.drew = w3 at *
        clear y0 y1 z1
        have y0 := HX3.out.at_ 0 rfl
        have y1 := HX3.out.at_ 1 rfl
        have hlt3 := HX3.out.1
        have HN2 := Lib.hid (rdc_new 2 w3 55 [.int .i64 (R : Int), .int .i64 (Q : Int)] 1 rfl (0, 0))
        have HO4 := Lib.hid (HO3.out.alloc (.cells #[.int .i64 (R : Int), .int .i64 (Q : Int)] 55))
        have hle2 : w.heap.size ≤ (w3.alloc (.cells #[.int .i64 (R : Int), .int .i64 (Q : Int)] 55)).heap.size := Nat.le_trans HB3.out.size (size_alloc_le _ _)
        have HB4 := Lib.hid (HB3.out.alloc HB3.out.size (.cells #[.int .i64 (R : Int), .int .i64 (Q : Int)] 55))
        have h1c := h1c Q
        go_wp2_with (at_builtin; refine wpList_appC manyFa rfl (.tmp 53) (.tmp 55) rfl rfl HO4.out ⟨w3.heap.size, 0, none⟩ 1 1 [.int .i64 (R : Int), .int .i64 (Q : Int)] h1c rfl HN2.out hj10 hle2 ?_; intro A' cap' w4 hg4)
        have HB5 := Lib.hid (hg4.below HB4.out hle2 (fun g e => (HO4.out.blk g e).1))
        have ho5 := hg4.own
        have HO5 := Lib.hid ho5
        clear hg4 ho5 y0 y1
        go_roundw
        case rel => exact ⟨j + 1, A', cap', gs ++ [⟨(R : Int), (Q : Int)⟩], by omega, by omega, rfl, by go_num, by rw [flatFa_snoc]; exact HO5, Lib.hid (HG.out.snoc HX.out (by show Dk.Fa.ok ⟨(R : Int), (Q : Int)⟩ N; unfold Dk.Fa.ok; simp only; omega)), HB5⟩
        case measure => simp [intOf]; omega
    · have key : (m : Int) ≤ (j : Int) ∨ ((j : Int) < (m : Int) ∧ (n : Int) ≤ (j : Int)) := by omega
      have hmin : j = min m n := by omega
      have hO := HO.out
      have hG := HG.out
      have HE := Lib.hid (show GivesFit w l (min m n) (.returned (.slice A1 j c1)) wr from ⟨A1, c1, gs, by rw [← hmin], by rw [← hmin]; exact hO, by rw [← hmin]; exact hG, HB.out⟩)
      clear hmin hO hG
      rcases key with q1 | ⟨q1, q2⟩
      all_goals
        go_wp2
        go_ret
        exact HE.out
end Go.Proofs.Ytamdihodconjiaa
