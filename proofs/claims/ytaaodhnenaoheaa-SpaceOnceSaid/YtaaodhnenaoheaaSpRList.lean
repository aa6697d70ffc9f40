/- The document's List, Free and New. -/
import Derived.Test.YtaaodhnenaoheaaSpTaken
import Derived.Test.YtaaodhnenaoheaaRow
import Derived.Test.YtaaodhnenaoheaaSpace
namespace Go.Proofs.Ytaaodhnenaoheaa
open Go.RowKit Sp
set_option linter.unusedVariables false
/-- Bools as values. -/
def bl (T : List Bool) : List Value := T.map fun (t : Bool) => .bool t
theorem bl_length (T : List Bool) : (bl T).length = T.length := by simp [bl]
theorem bl_at {T : List Bool} {k : Nat} (h : k < T.length) : (bl T)[k]? = some (.bool (T.getD k false)) := by
  simp [bl, h]
theorem bl_one (T : List Bool) : ∀ u ∈ bl T, u.oneCell' = true := by
  intro u hu
  obtain ⟨x, _, rfl⟩ := List.mem_map.1 hu
  rfl
theorem bl_set (T : List Bool) (k : Nat) (t : Bool) : bl (T.set k t) = (bl T).set k (.bool t) := by
  unfold bl; rw [List.map_set]
theorem bl_zero (n : Nat) : List.replicate n (Value.bool false) = bl (List.replicate n false) := by simp [bl]
/-- A slice that reads as these bools. -/
abbrev RdT (w : World) (A : Option Addr) (n : Nat) (T : List Bool) : Prop := RdV w A n (bl T)
theorem RdT.len {w : World} {A : Option Addr} {n : Nat} {T : List Bool} (h : RdT w A n T) : T.length = n := by have := h.1; rw [bl_length] at this; exact this
theorem RdT.bit {w : World} {A : Option Addr} {n : Nat} {T : List Bool} (h : RdT w A n T) {k : Nat} (hk : k < n) : ∃ b o, A = some ⟨b, o, none⟩ ∧ b < w.heap.size ∧ w.cell? ⟨b, o + k, none⟩ = some (.bool (T.getD k false)) := by
  obtain ⟨b, o, v, rfl, hb, hv, hc⟩ := h.at_ hk
  rw [bl_at (by rw [h.len]; exact hk)] at hv
  injection hv with hv
  subst hv
  exact ⟨b, o, rfl, hb, hc⟩
theorem OwnI.base_ {w : World} {base base' n cap : Nat} {A : Option Addr} {l : List Int} (h : OwnI w base A n cap l) (hb : base' ≤ base) : OwnI w base' A n cap l := by
  refine ⟨h.1, h.2.1, ?_⟩
  rcases h.2.2 with hn | ⟨g, c, cur, hv, hbg, rest⟩
  · exact .inl hn
  · exact .inr ⟨g, c, cur, hv, Nat.le_trans hb hbg, rest⟩
/-- A map of the document, as a value. -/
def rmapV (A : Option Addr) (n cap : Nat) : Value := .agg #[.slice A n cap]
set_option maxRecDepth 100000 in
set_option maxHeartbeats 1000000 in
theorem rlist_any (A : Option Addr) (n cap : Nat) (T : List Bool) (w : World) (h : RdT w A n T) (hn : n ≤ 511) : Calls Try.prog 28 #[.agg #[.slice A n cap]] w (GivesInts w (list T n)) := by
  have HL := Lib.hid (list_len T)
  have Hr := Lib.hid h
  have hlen := h.len
  have Hlen := Lib.hid hlen
  clear h hlen
  have hbox : ∀ wr, Below (w.heap.size + 1) (w.alloc (.cells #[.slice A n cap] 31)) wr → wr.cell? ⟨w.heap.size, 0, none⟩ = some (.slice A n cap) := by
    intro wr hb
    rw [hb.cell (p := ⟨w.heap.size, 0, none⟩) (by simp), World.cell?_alloc_mark]; rfl
  have Hbox := Lib.hid hbox
  clear hbox
  go_enter Try.func28, Try.ntmps28
  go_wp2
  go_loopw [3, 4] (fun l i wr => ∃ (k m c : Nat) (B : Option Addr), k ≤ n ∧ i = .int .i64 (k : Int) ∧ l = .slice B m c ∧ OwnI wr (w.heap.size + 1) B m c (list T k) ∧ Below (w.heap.size + 1) (w.alloc (.cells #[.slice A n cap] 31)) wr) (fun _ i _ => n - (intOf i).toNat)
  case atStart => exact ⟨0, 0, 0, none, by omega, rfl, rfl, OwnI.none_ _ _, Below.refl _ _⟩
  case round =>
    obtain ⟨k, m, c, B, hk, rfl, rfl, hO, hb⟩ := hrel
    have hm : m ≤ k := by have := hO.1; have := HL.out k; omega
    have hcell := Hbox.out wr hb
    have hw : w.heap.size + 1 ≤ wr.heap.size := by have := hb.size; simp at this; omega
    have hwb : Below w.heap.size w wr := ((Below.refl w.heap.size w).alloc (Nat.le_refl _) _).trans (hb.mono (by omega))
    by_cases hkn : k < n
    · have hki : (k : Int) < (n : Int) := by omega
      obtain ⟨b, o, rfl, hbl, hct⟩ := Hr.out.bit hkn
      have hct2 := (hwb.cell (p := ⟨b, o + k, none⟩) hbl).trans hct
      clear hct
      cases ht : T.getD k false with
      | true =>
        rw [ht] at hct2
        have hnext := list_yes ht
        have HN := Lib.hid hnext
        have hOa : OwnI (wr.alloc (.cells #[.int .i64 (k : Int)] 3)) (w.heap.size + 1) B m c (list T k) := hO.alloc _
        have hba : w.heap.size + 1 ≤ (wr.alloc (.cells #[.int .i64 (k : Int)] 3)).heap.size := by simp; omega
        have hbb : Below (w.heap.size + 1) (w.alloc (.cells #[.slice (some ⟨b, o, none⟩) n cap] 31)) (wr.alloc (.cells #[.int .i64 (k : Int)] 3)) := hb.alloc hw _
        have hca : (wr.alloc (.cells #[.int .i64 (k : Int)] 3)).cell? ⟨wr.heap.size, 0, none⟩ = some (.int .i64 (k : Int)) := by rw [World.cell?_alloc_mark]; rfl
        have Hca := Lib.hid hca
        have HO := Lib.hid hO
        have hmle : m + 1 ≤ 1000000 := by omega
        clear hca hO ht hnext
        go_wp2_with (first | (at_builtin; refine wpList_appI rfl (.tmp 17) (.tmp 19) rfl rfl hOa ⟨wr.heap.size, 0, none⟩ (k : Int) 1 rfl Hca.out hmle hba ?_; intro A3 c3 v3 hO3 hg3))
        have hb3 := hbb.grown hg3 hba (fun g h => (HO.out.blk g h).1)
        clear hOa hba hbb hg3
        go_roundw
        case rel => exact ⟨k + 1, m + 1, c3, A3, by omega, by go_num, rfl, by rw [HN.out]; exact hO3, hb3⟩
        case measure => simp [intOf]; omega
      | false =>
        rw [ht] at hct2
        have hnext := list_no ht
        have HN := Lib.hid hnext
        clear ht hnext
        go_wp2
        go_roundw
        case rel => exact ⟨k + 1, m, c, B, by omega, by go_num, rfl, by rw [HN.out]; exact hO, hb⟩
        case measure => simp [intOf]; omega
    · have hkn2 : k = n := by omega
      subst hkn2
      go_wp2
      go_ret
      exact ⟨B, m, c, rfl, hO.base_ (by omega), hwb⟩
namespace Sp
theorem free_step_no {T : List Bool} {k : Nat} (h : T.getD k false = false) : k + 1 - (list T (k + 1)).length = k - (list T k).length + 1 := by
  rw [list_no h]; have := list_len T k; omega
theorem free_step_yes {T : List Bool} {k : Nat} (h : T.getD k false = true) : k + 1 - (list T (k + 1)).length = k - (list T k).length := by
  rw [list_yes h, List.length_append]; simp
end Sp
set_option maxRecDepth 100000 in
set_option maxHeartbeats 1000000 in
theorem rfree_any (A : Option Addr) (n cap : Nat) (T : List Bool) (w : World) (h : RdT w A n T) (hn : n ≤ 511) : Calls Try.prog 29 #[.agg #[.slice A n cap]] w fun e w' => e = .returned (.int .i64 (free T : Int)) ∧ Below w.heap.size w w' := by
  have Hr := Lib.hid h
  have hlen := h.len
  have hfree : free T = n - (list T n).length := by unfold free; rw [hlen]
  have Hfree := Lib.hid hfree
  clear h hlen hfree
  go_enter Try.func29, Try.ntmps29
  go_wp2
  go_loop [3, 4] (fun t i => ∃ (k : Nat), k ≤ n ∧ i = .int .i64 (k : Int) ∧ t = .int .i64 ((k - (list T k).length : Nat) : Int)) (fun _ i => n - (intOf i).toNat)
  case atStart => exact ⟨0, by omega, rfl, rfl⟩
  case round =>
    obtain ⟨k, hk, rfl, rfl⟩ := hrel
    by_cases hkn : k < n
    · have hki : (k : Int) < (n : Int) := by omega
      obtain ⟨b, o, rfl, hbl, hct⟩ := Hr.out.bit hkn
      cases ht : T.getD k false with
      | true =>
        rw [ht] at hct
        have HN := Lib.hid (free_step_yes ht)
        clear ht
        generalize k - (list T k).length = q at *
        go_wp2
        go_round
        case rel => exact ⟨k + 1, by omega, by go_num, by rw [HN.out]⟩
        case measure => simp [intOf]; omega
      | false =>
        rw [ht] at hct
        have HN := Lib.hid (free_step_no ht)
        have hq : k - (list T k).length ≤ 511 := by omega
        clear ht
        generalize k - (list T k).length = q at *
        go_wp2
        go_round
        case rel => exact ⟨k + 1, by omega, by go_num, by rw [HN.out]; go_num⟩
        case measure => simp [intOf]; omega
    · have hkn2 : k = n := by omega
      subst hkn2
      rw [← Hfree.out]
      go_wp2
      go_ret
      exact ⟨rfl, (Below.refl _ _).alloc (Nat.le_refl _) _⟩
theorem oneB : One 29 4 (.bool false) 1 := ⟨by kernel_rfl, Try.underlying29, rfl, by omega⟩
set_option maxRecDepth 100000 in
theorem rnew_no (s : Int) (w : World) (h : s < 0 ∨ 4096 < s) : Calls Try.prog 13 #[.int .i64 s] w fun e w' => e = .returned (.tuple #[.agg #[.slice none 0 0], .int .i64 1]) ∧ Below w.heap.size w w' := by
  by_cases h1 : s < 0
  · go_enter Try.func13, Try.ntmps13
    go_wp2
    exact bodyPost_ret (v := .tuple #[.agg #[.slice none 0 0], .int .i64 1]) (by simp [results, Try.results13, go_sem]) rfl ⟨rfl, (Below.refl _ _).alloc (Nat.le_refl _) _⟩
  · have h2 : 4096 < s := by omega
    go_enter Try.func13, Try.ntmps13
    go_wp2
    exact bodyPost_ret (v := .tuple #[.agg #[.slice none 0 0], .int .i64 1]) (by simp [results, Try.results13, go_sem]) rfl ⟨rfl, (Below.refl _ _).alloc (Nat.le_refl _) _⟩
set_option maxRecDepth 100000 in
theorem rnew_yes (s : Int) (w : World) (h1 : 0 ≤ s) (h2 : s ≤ 4096) : Calls Try.prog 13 #[.int .i64 s] w fun e w' => e = .returned (.tuple #[.agg #[.slice (some ⟨w.heap.size + 1, 0, none⟩) (Sp.plots s) (Sp.plots s)], .int .i64 0]) ∧ Below w.heap.size w w' ∧ OwnV w' w.heap.size 4 (some ⟨w.heap.size + 1, 0, none⟩) (Sp.plots s) (Sp.plots s) (bl (List.replicate (Sp.plots s) false)) := by
  have hp := fun W => rplots_any s W (by omega)
  have hn : Sp.plots s ≤ 511 := by unfold Sp.plots; split <;> (try split) <;> omega
  generalize Sp.plots s = n at *
  have hm := make_row oneB n (by omega)
  have Hp := Lib.hid hp
  clear hp
  go_enter Try.func13, Try.ntmps13
  go_wp2_with (first | (go_at_call 11; refine (Hp.out _).mono ?_; rintro e w' ⟨rfl, rfl⟩))
  refine bodyPost_ret (v := .tuple #[.agg #[.slice (some ⟨w.heap.size + 1, 0, none⟩) n n], .int .i64 0]) (by simp [results, Try.results13, go_sem]) rfl ?_
  refine ⟨rfl, ((Below.refl _ _).alloc (Nat.le_refl _) _).alloc (by simp) _, ?_⟩
  have hz := OwnV.zeros (w.alloc (.cells #[.slice (some ⟨w.heap.size + 1, 0, none⟩) n n] 31)) 4 (.bool false) w.heap.size n (by simp) (by omega)
  rw [bl_zero, show (w.alloc (.cells #[.slice (some ⟨w.heap.size + 1, 0, none⟩) n n] 31)).heap.size = w.heap.size + 1 by simp] at hz
  exact hz
end Go.Proofs.Ytaaodhnenaoheaa
