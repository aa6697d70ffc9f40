/- What the document's own Open returns: the same as Open of package sum, for every slice of at most 1,000,000 bytes. -/
import Derived.Test.YtkpojegdeipfhaaOpen
import Derived.Laws.BytesArg
import Derived.Deep.RegionWith
namespace Go.Proofs.Ytkpojegdeipfhaa
open Go.RowKit
/-- Bytes as a string. -/
def str (l : List Nat) : ByteArray := ⟨(l.map fun (n : Nat) => UInt8.ofNat n).toArray⟩
theorem str_inj {a b : List Nat} (ha : ∀ x ∈ a, x < 256) (hb : ∀ x ∈ b, x < 256) (h : str a = str b) : a = b := by
  have h1 : (a.map fun (n : Nat) => UInt8.ofNat n) = b.map fun (n : Nat) => UInt8.ofNat n := by
    have := congrArg (fun s : ByteArray => s.data.toList) h
    simpa [str] using this
  have back : ∀ l : List Nat, (∀ x ∈ l, x < 256) → (l.map fun (n : Nat) => UInt8.ofNat n).map UInt8.toNat = l := by
    intro l hl
    induction l with
    | nil => rfl
    | cons x t ih =>
      rw [List.map_cons, List.map_cons, ih (fun y hy => hl y (List.mem_cons_of_mem _ hy))]
      congr 1
      have := hl x (List.mem_cons_self ..)
      simp [UInt8.toNat_ofNat']
      omega
  rw [← back a ha, ← back b hb, h1]
theorem str_eq {a b : List Nat} (ha : ∀ x ∈ a, x < 256) (hb : ∀ x ∈ b, x < 256) : str a = str b ↔ a = b := ⟨str_inj ha hb, fun h => by rw [h]⟩
theorem run_str {w : World} {A : Option Addr} {n cap : Nat} {l : List Nat} (h : Rd w A n l) : (convert 22 9 (.slice A n cap)).run Try.prog w = .ok (.string (str l)) w := by
  rcases A with _ | ad
  · have h0 : n = 0 := by
      rcases Nat.eq_zero_or_pos n with h0 | h0
      · exact h0
      · obtain ⟨b, o, he, _⟩ := h.2.2 h0
        cases he
    subst h0
    have hl : l = [] := List.eq_nil_of_length_eq_zero h.1
    subst hl
    exact run_convert_bytes_nil w 22 5 Try.underlying22 Try.underlying5 0 cap 9 Try.underlying9
  · by_cases h0 : 0 < n
    · obtain ⟨b, o, he, _, hc⟩ := h.2.2 h0
      injection he with he
      subst he
      have hr := run_convert_bytes_arg (P := Try.prog) w 22 5 Try.underlying22 Try.underlying5 b o n cap (l.map fun (x : Nat) => (x : Int)) (by simpa using h.1)
        (fun i hi => by
          have hi2 : i < l.length := by rw [h.1]; exact hi
          rw [hc i l[i] (List.getElem?_eq_getElem hi2)]
          simp [hi2]) 9 Try.underlying9
      rw [hr]
      congr 2
      simp [strOfNums, str]
    · have h1 : n = 0 := by omega
      subst h1
      have hl : l = [] := List.eq_nil_of_length_eq_zero h.1
      subst hl
      rw [run_convert_bytes_string w 22 9 5 (some ad) 0 cap Try.underlying22 Try.underlying5 Try.underlying9]
      have := run_bytesToString (P := Try.prog) w ad 0 cap [] (by simp [loadCells, loadCellsFrom, Sem.run_pure])
      exact this
set_option maxRecDepth 100000 in
theorem ropen_short (A : Option Addr) (n cap : Nat) (h : n < 4) (w : World) :
    Calls Try.prog 22 #[.slice A n cap] w fun e w' => e = .returned (.tuple #[.slice none 0 0, .int .i64 10]) ∧ w = w' := by
  have h1 : (n : Int) < 4 := by omega
  go_enter Try.func22, Try.ntmps22
  go_wp2
  go_ret2
  exact ⟨rfl, rfl⟩
theorem str_same {a b : List Nat} (h : a = b) : ((str a).toList == (str b).toList) = true := by rw [h]; simp
theorem str_other {a b : List Nat} (ha : ∀ x ∈ a, x < 256) (hb : ∀ x ∈ b, x < 256) (h : a ≠ b) : ((str a).toList == (str b).toList) = false := by
  rw [beq_eq_false_iff_ne]
  intro e
  rw [ByteArray.toList_eq, ByteArray.toList_eq] at e
  apply h
  refine str_inj ha hb ?_
  have e2 : (str a).data = (str b).data := by
    have := congrArg List.toArray e
    simpa using this
  cases ha' : str a
  cases hb' : str b
  rw [ha', hb'] at e2
  exact congrArg ByteArray.mk e2
theorem Cr.sealed_lt {l : List Nat} (hl : ∀ x ∈ l, x < 256) : ∀ x ∈ Cr.sealed l, x < 256 := fun x hx => (List.mem_append.1 hx).elim (hl x) (Cr.le4_lt _ x)
theorem Own.drew {w : World} {base n cap : Nat} {A : Option Addr} {l : List Nat} (h : Own w base A n cap l) : Own w.drew base A n cap l := h
set_option maxRecDepth 100000 in
theorem ropen_good (A : Option Addr) (m cap : Nat) (l : List Nat) (w : World) (hl : Rd w A (m + 4) l) (hc : m + 4 ≤ cap) (hn : m ≤ 1000000) (hg : Cr.sealed (l.take m) = l) :
    Calls Try.prog 22 #[.slice A (m + 4) cap] w (GivesOpen w (some (l.take m))) := by
  have hlm := hl.take (show m ≤ m + 4 by omega)
  have hbe := str_same hg
  clear hg
  go_enter Try.func22, Try.ntmps22
  go_wp2_with (first | (at_builtin; refine wpList_appB rfl (.tmp 8) (.tmp 13) rfl rfl (Own.lit (base := w.heap.size) w [] (by simp) (Nat.le_refl _) (by simp)) A m cap (l.take m) rfl (hlm.alloc _) (by simp; omega) (by simp) ?_; intro A1 cap1 w1 hg1; have hb1 : Below w.heap.size w w1 := hg1.below ((Below.refl _ _).alloc (Nat.le_refl _) _) (by simp) (fun g hg => by simp [Value.ownBlock] at hg; omega); have ho1 : Own w1 w.heap.size A1 m cap1 (l.take m) := by simpa using hg1.own))
  have hcv : ∀ wx : World, Rd wx A (m + 4) l → (convert 22 9 (.slice A (m + 4) cap)).run Try.prog wx = .ok (.string (str l)) wx := fun wx h => run_str h
  have hl1 : Rd w1.drew A (m + 4) l := (hl.below hb1).drew
  clear hg1
  go_region_with (first | (go_at_call 24; refine (rseal_any _ _ _ (l.take m) _ ho1.rd.drew hn).mono ?_; rintro e w3 ⟨A3, cap3, rfl, ho3, hb3⟩; have hcv3 := run_str (cap := cap3) ho3.rd; have hl3 := hl1.below hb3))
  all_goals
    go_wp2
    go_ret2
    have hb4 : Below w.heap.size w w3 := hb1.drew.trans (hb3.mono hb1.drew.size)
    unfold GivesOpen
    refine ⟨A1, cap1, ?_⟩
    rw [hlm.1]
    exact ⟨rfl, ho1.drew.below hb3, hb4⟩
set_option maxRecDepth 100000 in
theorem ropen_bad (A : Option Addr) (m cap : Nat) (l : List Nat) (w : World) (hl : Rd w A (m + 4) l) (hc : m + 4 ≤ cap) (hn : m ≤ 1000000) (hg : Cr.sealed (l.take m) ≠ l) :
    Calls Try.prog 22 #[.slice A (m + 4) cap] w fun e w' => e = .returned (.tuple #[.slice none 0 0, .int .i64 10]) ∧ Below w.heap.size w w' := by
  have hlm := hl.take (show m ≤ m + 4 by omega)
  have hbe := str_other (Cr.sealed_lt hlm.2.1) hl.2.1 hg
  clear hg
  go_enter Try.func22, Try.ntmps22
  go_wp2_with (first | (at_builtin; refine wpList_appB rfl (.tmp 8) (.tmp 13) rfl rfl (Own.lit (base := w.heap.size) w [] (by simp) (Nat.le_refl _) (by simp)) A m cap (l.take m) rfl (hlm.alloc _) (by simp; omega) (by simp) ?_; intro A1 cap1 w1 hg1; have hb1 : Below w.heap.size w w1 := hg1.below ((Below.refl _ _).alloc (Nat.le_refl _) _) (by simp) (fun g hg => by simp [Value.ownBlock] at hg; omega); have ho1 : Own w1 w.heap.size A1 m cap1 (l.take m) := by simpa using hg1.own))
  have hcv : ∀ wx : World, Rd wx A (m + 4) l → (convert 22 9 (.slice A (m + 4) cap)).run Try.prog wx = .ok (.string (str l)) wx := fun wx h => run_str h
  have hl1 : Rd w1.drew A (m + 4) l := (hl.below hb1).drew
  clear hg1
  go_region_with (first | (go_at_call 24; refine (rseal_any _ _ _ (l.take m) _ ho1.rd.drew hn).mono ?_; rintro e w3 ⟨A3, cap3, rfl, ho3, hb3⟩; have hcv3 := run_str (cap := cap3) ho3.rd; have hl3 := hl1.below hb3))
  all_goals
    go_wp2
    go_ret2
    have hb4 : Below w.heap.size w w3 := hb1.drew.trans (hb3.mono hb1.drew.size)
    exact ⟨rfl, hb4⟩
theorem ropen_any (A : Option Addr) (n cap : Nat) (l : List Nat) (w : World) (hl : Rd w A n l) (hc : n ≤ cap) (hn : n ≤ 1000000) :
    Calls Try.prog 22 #[.slice A n cap] w (GivesOpen w (Cr.opened l)) := by
  by_cases h4 : n < 4
  · have e : Cr.opened l = none := by
      unfold Cr.opened; rw [hl.1, if_neg]; omega
    rw [e]
    exact (ropen_short A n cap h4 w).mono fun e w' ⟨h1, h2⟩ => by subst h2; exact ⟨h1, Below.refl _ _⟩
  · obtain ⟨m, rfl⟩ : ∃ m, n = m + 4 := ⟨n - 4, by omega⟩
    unfold Cr.opened
    rw [hl.1, show m + 4 - 4 = m by omega]
    by_cases hg : l = Cr.sealed (l.take m)
    · rw [if_pos ⟨by omega, hg⟩]
      exact ropen_good A m cap l w hl hc (by omega) hg.symm
    · rw [if_neg (fun h => hg h.2)]
      exact ropen_bad A m cap l w hl hc (by omega) (fun h => hg h.symm)
end Go.Proofs.Ytkpojegdeipfhaa
