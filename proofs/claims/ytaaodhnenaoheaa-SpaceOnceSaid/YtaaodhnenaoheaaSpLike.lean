/- A map is as the document's: like tells so. -/
import Derived.Test.YtaaodhnenaoheaaSpRList
import Derived.Deep.RegionHeld3
import Derived.Deep.DeepCutAuto
namespace Go.Proofs.Ytaaodhnenaoheaa
open Go.RowKit Sp
set_option linter.unusedVariables false
theorem calls_int {P : Program} {f : FuncId} {args : Array Value} {W w : World} {v : Value} (hq : Below W.heap.size W w) (h : ∀ W', Below W.heap.size W W' → Calls P f args W' fun e w' => e = .returned v ∧ Below W'.heap.size W' w') :
    Calls P f args w fun e w' => e = .returned v ∧ Below W.heap.size W w' := (h w hq).mono fun _ _ ⟨he, hb⟩ => ⟨he, hq.trans (hb.mono hq.size)⟩
theorem same_below {P : Program} {f : FuncId} {args : Array Value} {w : World} {v : Value} (h : Calls P f args w fun e w' => e = .returned v ∧ w = w') : Calls P f args w fun e w' => e = .returned v ∧ Below w.heap.size w w' :=
  h.mono fun _ _ ⟨he, hw⟩ => by subst hw; exact ⟨he, Below.refl _ _⟩
/-- The two slices of ints, side by side. -/
def Two (W : World) (l : List Int) (x y : Value) (wx : World) : Prop :=
  ∃ (A : Option Addr) (n c : Nat) (B : Option Addr) (m d : Nat), x = .slice A n c ∧ y = .slice B m d ∧ RdZ wx A n l ∧ RdZ wx B m l ∧ Below W.heap.size W wx
theorem RdZ.at_ {w : World} {A : Option Addr} {n : Nat} {l : List Int} (h : RdZ w A n l) {k : Nat} (hk : k < n) : ∃ b o, A = some ⟨b, o, none⟩ ∧ b < w.heap.size ∧ w.cell? ⟨b, o + k, none⟩ = some (.int .i64 (l.getD k 0)) := by
  obtain ⟨b, o, rfl, hb, hc⟩ := h.2 (by omega)
  have hx : l[k]? = some (l[k]'(by rw [h.1]; exact hk)) := List.getElem?_eq_getElem _
  refine ⟨b, o, rfl, hb, ?_⟩
  rw [hc k _ hx, List.getD_eq_getElem?_getD, hx]; rfl
set_option maxRecDepth 100000 in
set_option maxHeartbeats 1000000 in
theorem like_any (b : Nat) (T : List Bool) (A : Option Addr) (n cap : Nat) (w : World) (h : MapAt w b T) (hr : RdT w A n T) : Calls Try.prog 14 #[.pointer (some ⟨b, 0, none⟩), .agg #[.slice A n cap]] w fun e w' => e = .returned (.bool true) ∧ Below w.heap.size w w' := by
  have hf := h.few
  have hlen := hr.len
  have hL := list_len T n
  subst hlen
  have HM := Lib.hid (fun (W : World) (hW : Below w.heap.size w W) => h.below hW)
  have HR := Lib.hid (fun (W : World) (hW : Below w.heap.size w W) => hr.below hW)
  clear h hr
  generalize hl : list T T.length = l at hL
  have Hl := Lib.hid hl
  clear hl
  go_enter Try.func14, Try.ntmps14
  go_wp2_with fail
  have hw0 : Below w.heap.size w (w.alloc (.cells #[.slice A T.length cap] 31)) := (Below.refl _ _).alloc (Nat.le_refl _) _
  have hbx : ∀ wr, Below (w.alloc (.cells #[.slice A T.length cap] 31)).heap.size (w.alloc (.cells #[.slice A T.length cap] 31)) wr → wr.cell? ⟨w.heap.size, 0, none⟩ = some (.slice A T.length cap) := by
    intro wr hb
    rw [hb.cell (p := ⟨w.heap.size, 0, none⟩) (by simp), World.cell?_alloc_mark]; rfl
  generalize (w.alloc (.cells #[.slice A T.length cap] 31)) = W at *
  have hT := fun (W' : World) (hW : Below W.heap.size W W') => taken_any b T W' (HM.out W' (below_next hw0 hW))
  have hR := fun (W' : World) (hW : Below W.heap.size W W') => rlist_any A T.length cap T W' (HR.out W' (below_next hw0 hW)) hf
  have hF := fun (W' : World) (hW : Below W.heap.size W W') => free_any b T W' (HM.out W' (below_next hw0 hW))
  have hG := fun (W' : World) (hW : Below W.heap.size W W') => rfree_any A T.length cap T W' (HR.out W' (below_next hw0 hW)) hf
  have hN := fun (W' : World) (hW : Below W.heap.size W W') => same_below (len_any b T W' (HM.out W' (below_next hw0 hW)))
  rw [Hl.out] at hT hR
  have HT := Lib.hid hT
  have HRl := Lib.hid hR
  have HF := Lib.hid hF
  have HG := Lib.hid hG
  have HN := Lib.hid hN
  have HB := Lib.hid hbx
  have hc0 := hbx W (Below.refl _ _)
  have hd : Below W.heap.size W W.drew := (Below.refl _ _).drew
  clear hT hR hF hG hN hbx
  have keep : ∀ v, Below W.heap.size W v → Below W.heap.size W v ∧ v.cell? ⟨w.heap.size, 0, none⟩ = some (.slice A T.length cap) := fun v hv => ⟨hv, HB.out v hv⟩
  have KP := Lib.hid keep
  clear keep
  go_upto_region 1 with fail
  go_cut [5, 6] (fun x y wx => Two W l x y wx)
  case first =>
    go_region_held3 (fun w' => Below W.heap.size W w' ∧ w'.cell? ⟨w.heap.size, 0, none⟩ = some (.slice A T.length cap)) (first | exact KP.out _ hd | exact KP.out _ hc10 | exact KP.out _ hc11) (first | (go_at_call 26; refine (HT.out _ (by first | exact hc11 | exact hd)).mono ?_; rintro e v10 ⟨A10, n10, cap10, rfl, ho10, hb10⟩; have hc10 : Below W.heap.size W v10 := below_next (by first | exact hc11 | exact hd) hb10; have hr10 : Below v10.heap.size v10 v10 := Below.refl _ _) | (go_at_call 28; refine (HRl.out _ (by first | exact hc10 | exact hd)).mono ?_; rintro e v11 ⟨A11, n11, cap11, rfl, ho11, hb11⟩; have hc11 : Below W.heap.size W v11 := below_next (by first | exact hc10 | exact hd) hb11; have hr11 : Below v11.heap.size v11 v11 := Below.refl _ _))
    all_goals
      go_wp2_with fail
      go_meet
      first
        | exact ⟨A10, n10, cap10, A11, n11, cap11, rfl, rfl, ho10.rd.below hb11, ho11.rd, hc11⟩
        | exact ⟨A10, n10, cap10, A11, n11, cap11, rfl, rfl, ho10.rd, ho11.rd.below hb10, hc10⟩
  case rest =>
    obtain ⟨A1, n1, c1, A2, n2, c2, rfl, rfl, hr1, hr2, hW⟩ := hcut
    have e1 := hr1.1
    have e2 := hr2.1
    subst e1
    subst e2
    have hca : ∀ v, Below wc.heap.size wc v → v.cell? ⟨w.heap.size, 0, none⟩ = some (.slice A T.length cap) := fun v hv => HB.out v (below_next hW hv)
    have Ca := Lib.hid hca
    clear hca
    go_wp2_with fail
    refine region_class (fun w' => Below wc.heap.size wc w') (by kernel_rfl) (by kernel_rfl) ((Below.refl _ _).drew) ?_
    repeat (go_big_quiet_step ((first | (intro _; with_reducible rfl) | (intro hq; exact calls_int hq (fun W' hW' => HN.out W' (below_next hW hW'))) | (intro hq; exact calls_int hq (fun W' hW' => HF.out W' (below_next hW hW'))) | (intro hq; exact calls_int hq (fun W' hW' => HG.out W' (below_next hW hW'))) | (intro hq; have e1 := Ca.out _ hq; simp [e1, Result.andThen]; with_reducible rfl))))
    refine wpQuiet_nil ?_
    intro v9 hv9
    have hl1 := hr1.below hv9
    have hl2 := hr2.below hv9
    have hW9 := below_next hw0 (below_next hW hv9)
    clear hr1 hr2 hc0 hd hv9
    go_wp2_with fail
    go_loopw [7] (fun i wr => ∃ k : Nat, k ≤ l.length ∧ i = .int .i64 (k : Int) ∧ Below v9.heap.size v9 wr) (fun i _ => l.length - (intOf i).toNat)
    case atStart => exact ⟨0, by omega, rfl, Below.refl _ _⟩
    case round =>
      obtain ⟨k, hk, rfl, hbr⟩ := hrel
      by_cases hkn : k < l.length
      · have hki : (k : Int) < (l.length : Int) := by omega
        obtain ⟨b1, o1, rfl, hb1, hc1⟩ := (hl1.below hbr).at_ hkn
        obtain ⟨b2, o2, rfl, hb2, hc2⟩ := (hl2.below hbr).at_ hkn
        go_wp2
        go_region
        go_wp2
        go_roundw
        case rel => exact ⟨k + 1, by omega, by go_num, hbr.drew⟩
        case measure => simp [intOf]; omega
      · have hkn2 : k = l.length := by omega
        subst hkn2
        go_wp2
        go_ret
        exact ⟨rfl, below_next hW9 hbr⟩
end Go.Proofs.Ytaaodhnenaoheaa
