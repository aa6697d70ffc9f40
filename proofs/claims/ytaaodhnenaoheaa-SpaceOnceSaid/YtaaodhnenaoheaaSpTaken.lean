/- Which plots are taken, as a list; how many are free. -/
import Derived.Test.YtaaodhnenaoheaaSpMap
import Derived.Test.YtaaodhnenaoheaaInts
namespace Go.Proofs.Ytaaodhnenaoheaa
open Go.RowKit Sp
set_option linter.unusedVariables false
namespace Sp
/-- The plots below k that are taken. -/
def list (T : List Bool) (k : Nat) : List Int := ((List.range k).filter fun i => T.getD i false).map fun (i : Nat) => (i : Int)
theorem list_zero (T : List Bool) : list T 0 = [] := rfl
theorem list_yes {T : List Bool} {k : Nat} (h : T.getD k false = true) : list T (k + 1) = list T k ++ [(k : Int)] := by
  unfold list
  rw [List.range_succ, List.filter_append, List.map_append, List.filter_cons, if_pos h]
  rfl
theorem list_no {T : List Bool} {k : Nat} (h : T.getD k false = false) : list T (k + 1) = list T k := by
  unfold list
  rw [List.range_succ, List.filter_append, List.filter_cons, if_neg (by rw [h]; decide)]
  simp
theorem list_len (T : List Bool) (k : Nat) : (list T k).length ≤ k := by
  unfold list
  rw [List.length_map]
  exact Nat.le_trans (List.length_filter_le _ _) (by simp)
def free (T : List Bool) : Nat := T.length - (list T T.length).length
end Sp
/-- A slice of ints of the call's own. -/
def GivesInts (w : World) (l : List Int) (e : Ending) (w' : World) : Prop :=
  ∃ (A : Option Addr) (n cap : Nat), e = .returned (.slice A n cap) ∧ OwnI w' w.heap.size A n cap l ∧ Below w.heap.size w w'
theorem below_row {w v w' : World} {row : Option Nat} (hb : Below w.heap.size w v) (hg : v.grownBy w' row) (h : ∀ g, row = some g → w.heap.size ≤ g) : Below w.heap.size w w' := hb.grown hg hb.size h
set_option maxRecDepth 100000 in
set_option maxHeartbeats 1000000 in
theorem taken_any (b : Nat) (T : List Bool) (w : World) (h : MapAt w b T) : Calls Try.prog 26 #[.pointer (some ⟨b, 0, none⟩)] w (GivesInts w (list T T.length)) := by
  have h0 := len_any b T w h
  have hf := h.few
  have hhas := fun (k : Nat) (hk : k < T.length) (W : World) (hW : Below w.heap.size w W) => has_any b T k W (h.below hW) hk
  have H0 := Lib.hid h0
  have HH := Lib.hid hhas
  have HL := Lib.hid (list_len T)
  clear h0 h hhas
  go_enter Try.func26, Try.ntmps26
  go_wp2_with (first | (go_at_call 25; refine H0.out.mono ?_; rintro e w' ⟨rfl, rfl⟩))
  go_loopw [3, 7] (fun l i wr => ∃ (k m c : Nat) (A : Option Addr), k ≤ T.length ∧ i = .int .i64 (k : Int) ∧ l = .slice A m c ∧ OwnI wr w.heap.size A m c (list T k) ∧ Below w.heap.size w wr) (fun _ i _ => T.length - (intOf i).toNat)
  case atStart => exact ⟨0, 0, 0, none, by omega, rfl, rfl, OwnI.none_ w _, Below.refl _ _⟩
  case round =>
    obtain ⟨k, m, c, A, hk, rfl, rfl, hO, hb⟩ := hrel
    have hm : m ≤ k := by have := hO.1; have := HL.out k; omega
    by_cases hkn : k < T.length
    · have hki : (k : Int) < (T.length : Int) := by omega
      have hc := HH.out k hkn wr hb
      cases ht : T.getD k false with
      | true =>
        rw [ht] at hc
        have hnext := list_yes ht
        have HN := Lib.hid hnext
        have hOa : OwnI (wr.alloc (.cells #[.int .i64 (k : Int)] 3)) w.heap.size A m c (list T k) := hO.alloc _
        have hba : Below w.heap.size w (wr.alloc (.cells #[.int .i64 (k : Int)] 3)) := hb.alloc hb.size _
        have hca : (wr.alloc (.cells #[.int .i64 (k : Int)] 3)).cell? ⟨wr.heap.size, 0, none⟩ = some (.int .i64 (k : Int)) := by rw [World.cell?_alloc_mark]; rfl
        have Hca := Lib.hid hca
        have HO := Lib.hid hO
        have Hc := Lib.hid hc
        have hmle : m + 1 ≤ 1000000 := by omega
        clear hca hO hc ht hnext
        go_wp2_with (first | (go_at_call 36; refine Hc.out.mono ?_; rintro e w' ⟨rfl, rfl⟩) | (at_builtin; refine wpList_appI rfl (.tmp 13) (.tmp 15) rfl rfl hOa ⟨wr.heap.size, 0, none⟩ (k : Int) 1 rfl Hca.out hmle hba.size ?_; intro A3 c3 v3 hO3 hg3))
        have hb3 := below_row hba hg3 (fun g h => (HO.out.blk g h).1)
        clear hOa hba hg3
        go_roundw
        case rel => exact ⟨k + 1, m + 1, c3, A3, by omega, by go_num, rfl, by rw [HN.out]; exact hO3, hb3⟩
        case measure => simp [intOf]; omega
      | false =>
        rw [ht] at hc
        have hnext := list_no ht
        have HN := Lib.hid hnext
        have Hc := Lib.hid hc
        clear ht hnext hc
        go_wp2_with (first | (go_at_call 36; refine Hc.out.mono ?_; rintro e w' ⟨rfl, rfl⟩))
        go_roundw
        case rel => exact ⟨k + 1, m, c, A, by omega, by go_num, rfl, by rw [HN.out]; exact hO, hb⟩
        case measure => simp [intOf]; omega
    · have hkn2 : k = T.length := by omega
      subst hkn2
      go_wp2
      go_ret
      exact ⟨A, m, c, rfl, hO, hb⟩
set_option maxRecDepth 100000 in
theorem free_any (b : Nat) (T : List Bool) (w : World) (h : MapAt w b T) : Calls Try.prog 27 #[.pointer (some ⟨b, 0, none⟩)] w fun e w' => e = .returned (.int .i64 (free T : Int)) ∧ Below w.heap.size w w' := by
  have h0 := len_any b T w h
  have h1 := taken_any b T w h
  have hf := h.few
  have hl := list_len T T.length
  have hw : IntKind.i64.wrap ((T.length : Int) - ((list T T.length).length : Int)) = (free T : Int) := by rw [IntKind.wrap_i64]; unfold free; omega
  have Hw := Lib.hid hw
  have H0 := Lib.hid h0
  have H1 := Lib.hid h1
  clear h0 h h1 hw
  go_enter Try.func27, Try.ntmps27
  go_wp2_with (first | (go_at_call 25; refine H0.out.mono ?_; rintro e w' ⟨rfl, rfl⟩) | (go_at_call 26; refine H1.out.mono ?_; rintro e w' ⟨A, n, c, rfl, hO, hb⟩; have hn := hO.1; subst hn))
  go_ret
  exact ⟨ret_i64 (by have := Hw.out; rw [IntKind.wrap_i64] at this; omega), hb⟩
end Go.Proofs.Ytaaodhnenaoheaa
