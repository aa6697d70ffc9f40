/- What frag's Join returns. -/
import Derived.Test.YtpggomekbahddaaFgTake
import Derived.Test.YtpggomekbahddaaM08
namespace Go.Proofs.Ytpggomekbahddaa
open Go.RowKit
set_option linter.unusedVariables false
namespace Fg
theorem run_many {p : List Nat} {s s' : Js} (h : run p s = some s') : ∃ t, s'.1 = s.1 ++ t ∧ t.length ≤ p.length := by
  induction hn : p.length using Nat.strongRecOn generalizing p s with
  | _ n ih =>
    by_cases hp : p = []
    · subst hp
      rw [run_nil] at h
      injection h with h
      subst h
      exact ⟨[], by simp, by simp⟩
    · cases hf : frag1 p with
      | none => rw [run_none hp hf] at h; cases h
      | some kb =>
        obtain ⟨k, b⟩ := kb
        have hb := frag1_some hf
        rw [run_step hf] at h
        cases hs : jstep s k b with
        | none => rw [hs] at h; cases h
        | some s1 =>
          rw [hs] at h
          obtain ⟨t1, e1, l1⟩ := jstep_many hs
          obtain ⟨t2, e2, l2⟩ := ih _ (by rw [List.length_drop]; omega) h rfl
          rw [List.length_drop] at l2
          exact ⟨t1 ++ t2, by rw [e2, e1, List.append_assoc], by rw [List.length_append]; omega⟩
theorem jpay_many {p : List Nat} {s s' : Js} (h : jpay s p = some s') : ∃ t, s'.1 = s.1 ++ t ∧ t.length ≤ 108 := by
  unfold jpay at h
  by_cases h8 : 108 < p.length
  · rw [if_pos h8] at h; cases h
  · rw [if_neg h8] at h
    obtain ⟨t, e, l⟩ := run_many h
    exact ⟨t, e, by omega⟩
/-- Records of payloads, and how many payloads were gone through. -/
def joinL : List (List Nat) → Js → List (List Nat) × Nat
  | [], s => (s.1, 0)
  | p :: ps, s => match jpay s p with
    | none => (s.1, 0)
    | some s' => ((joinL ps s').1, (joinL ps s').2 + 1)
theorem joinL_none {L : List (List Nat)} {k : Nat} {p : List Nat} {s : Js} (h : L[k]? = some p) (hs : jpay s p = none) : joinL (L.drop k) s = (s.1, 0) := by
  have hk := (List.getElem?_eq_some_iff.1 h).1
  rw [List.drop_eq_getElem_cons hk]
  rw [List.getElem?_eq_getElem hk] at h
  injection h with h
  rw [h, joinL, hs]
theorem joinL_some {L : List (List Nat)} {k : Nat} {p : List Nat} {s s' : Js} (h : L[k]? = some p) (hs : jpay s p = some s') : joinL (L.drop k) s = ((joinL (L.drop (k + 1)) s').1, (joinL (L.drop (k + 1)) s').2 + 1) := by
  have hk := (List.getElem?_eq_some_iff.1 h).1
  rw [List.drop_eq_getElem_cons hk]
  rw [List.getElem?_eq_getElem hk] at h
  injection h with h
  rw [h, joinL, hs]
end Fg
theorem JAt.rows {a v : World} {j : Nat} {s : Fg.Js} (h : JAt a j s v) : ∃ (A : Option Addr) (n cap : Nat) (x : Value), Holds v j [.slice A n cap, .bool s.2.isSome, x] ∧ NewB v a.heap.size A n s.1 ∧ n ≤ cap ∧ n = s.1.length := by
  obtain ⟨A, n, cap, vs, B, c, m, hH, hj, hT⟩ := h.any
  refine ⟨A, n, cap, _, hH, ⟨vs, hT.row.rd, hT.items.imp fun b _ hx => (by have := hx.1; omega), fun _ b o e => (by have := (hT.row.blk b (by rw [e]; rfl)).1; omega)⟩, hT.row.fits, ?_⟩
  rw [← hT.items.1]
  exact hT.row.1.symm
def GivesJoin (w : World) (r : List (List Nat) × Nat) (e : Ending) (w' : World) : Prop :=
  ∃ (A : Option Addr) (c : Nat), e = .returned (.tuple #[.slice A r.1.length c, .int .i64 (r.2 : Int)]) ∧ NewB w' w.heap.size A r.1.length r.1 ∧ r.1.length ≤ c ∧ r.1.length ≤ 900000 ∧ Below w.heap.size w w'
theorem run_told (A : Option Addr) (n c t : Nat) (ht : t ≤ n) (hc : n ≤ c) (w : World) : (Instr.slice 22 (.slice A n c) none (some (.int .i64 (t : Int))) (some (.int .i64 (t : Int)))).run Try.prog w = .ok (.slice A t t) w := by
  have h2 : t ≤ c := by omega
  simp [Instr.slice, run_underlying Try.underlying22, Instr.sliceBounds, Instr.sliceBound, asIntOf, go_sem, h2]
set_option maxRecDepth 100000 in
set_option maxHeartbeats 4000000 in
theorem join_any (A : Option Addr) (n c : Nat) (L : List (List Nat)) (w : World) (hr : RdB w A n L) (hn : n ≤ 8000) :
    Calls Try.prog 25 #[.slice A n c] w (GivesJoin w (Fg.joinL L ([], none))) := by
  have hl := hr.len
  have hB0 : Below w.heap.size w (w.alloc (.cells #[.slice none 0 0, .bool false, .slice none 0 0] 80)) := (Below.refl _ _).alloc (Nat.le_refl _) _
  have k0 := Holds.new w #[.slice none 0 0, .bool false, .slice none 0 0] 80
  have hJ0 : JAt w w.heap.size ([], none) (w.alloc (.cells #[.slice none 0 0, .bool false, .slice none 0 0] 80)) :=
    ⟨none, 0, 0, [], none, 0, 0, k0, by omega, Nat.le_refl _, ⟨by omega, hB0, by simp, OwnV.none_ _ _ _, Items.nil _ _, Own.none_ _ _, .inl rfl⟩⟩
  have HJ0 := Lib.hid hJ0
  have HR := Lib.hid hr
  have HL := Lib.hid hl
  clear hr hl hJ0 k0 hB0
  go_enter Try.func25, Try.ntmps25
  go_wp2
  go_loopw [5] (fun ii v => ∃ (k : Nat) (s : Fg.Js), k ≤ n ∧ ii = .int .i64 (k : Int) ∧ JAt w w.heap.size s v ∧ Fg.JFit s ∧ s.1.length ≤ 108 * k ∧ Hid (Fg.joinL L ([], none) = ((Fg.joinL (L.drop k) s).1, k + (Fg.joinL (L.drop k) s).2))) (fun ii _ => n - (intOf ii).toNat)
  case atStart => exact ⟨0, ([], none), Nat.zero_le _, rfl, HJ0.out, (fun x e => by cases e), by simp, Lib.hid (by simp)⟩
  case round =>
    clear HJ0
    obtain ⟨k, s, hk, rfl, hJ, hF, hmany, heq⟩ := hrel
    obtain ⟨A1, n1, cap1, x1, hH, hrows, hfits, hn1⟩ := hJ.rows
    have c0 := hH.at_ 0 rfl
    by_cases hkn : k < n
    · obtain ⟨b, o, RB, c2, r, rfl, hb1, hrk, hcell, hrd, hrc, hrm⟩ := HR.out.at_ hkn
      have hki : (k : Int) < (n : Int) := by omega
      have hcellw := (hJ.below.cell (p := ⟨b, o + k, none⟩) hb1).trans hcell
      have htk := take_any w w.heap.size RB r.length c2 r s wr hJ hF hrd hrc (by omega) hrm
      have HJ := Lib.hid hJ
      have HRows := Lib.hid hrows
      have Hrk := Lib.hid hrk
      have HEq := heq
      have hn1' : n1 = s.1.length := hn1
      cases hs : Fg.jpay s r with
      | none =>
        rw [hs] at htk
        have hj1 := Fg.joinL_none hrk hs
        have hres : Fg.joinL L ([], none) = (s.1, k) := by rw [heq.out, hj1]; rfl
        have HRes := Lib.hid hres
        have HTk := Lib.hid htk
        have HN1 := Lib.hid hn1
        clear hJ hrows hrk htk hrd hcell hs hj1 hres heq HEq hn1 hn1' hH
        go_wp2_with fail
        refine HTk.out.mono ?_
        rintro e9 v9 ⟨rfl, s2, t, hJ2, hst⟩
        obtain ⟨A2, n2, cap2, x2, hH2, hrows2, hfits2, hn2⟩ := hJ2.rows
        have c02 := hH2.at_ 0 rfl
        have hle : n1 ≤ n2 := by rw [hn2, hst, List.length_append, HN1.out]; omega
        have hsl := fun W => run_told A2 n2 cap2 n1 hle hfits2 W
        have hrd9 := hrows2.take hle
        rw [hst, HN1.out, List.take_left'  rfl] at hrd9
        have HRd9 := Lib.hid hrd9
        have HB9 := Lib.hid hJ2.below
        clear hrd9 hJ2 hst hrows2 hH2 hn2 c0
        go_wp2_with fail
        go_ret2
        rw [HRes.out]
        exact ⟨A2, n1, by rw [← HN1.out]; rfl, HRd9.out, by rw [← HN1.out]; exact Nat.le_refl _, (show s.1.length ≤ 900000 by omega), HB9.out⟩
      | some s' =>
        rw [hs] at htk
        have hj1 := Fg.joinL_some hrk hs
        have hnext : Fg.joinL L ([], none) = ((Fg.joinL (L.drop (k + 1)) s').1, (k + 1) + (Fg.joinL (L.drop (k + 1)) s').2) := by
          rw [heq.out, hj1]
          dsimp only
          rw [Nat.add_assoc, Nat.add_comm 1]
        have HNext := Lib.hid hnext
        obtain ⟨t, ht, htl⟩ := Fg.jpay_many hs
        have hm2 : s'.1.length ≤ 108 * (k + 1) := by rw [ht, List.length_append]; omega
        have HM2 := Lib.hid hm2
        have HTk := Lib.hid htk
        clear hJ hrows hrk htk hrd hcell hs hj1 hnext heq HEq hn1 hn1' hH ht htl hm2
        go_wp2_with fail
        refine HTk.out.mono ?_
        rintro e9 v9 ⟨rfl, hJ2, hF2⟩
        have HJ2 := Lib.hid hJ2
        have HF2 := Lib.hid hF2
        clear hJ2 hF2 c0
        go_wp2_with fail
        go_roundw
        case rel => exact ⟨k + 1, s', by omega, by go_num, HJ2.out, HF2.out, HM2.out, HNext⟩
        case measure => simp [intOf]; omega
    · have hkn2 : k = n := by omega
      subst hkn2
      have hres : Fg.joinL L ([], none) = (s.1, k) := by
        rw [heq.out, List.drop_of_length_le (Nat.le_of_eq HL.out)]; rfl
      have HRes := Lib.hid hres
      have HRows := Lib.hid hrows
      have HN1 := Lib.hid hn1
      have HB9 := Lib.hid hJ.below
      clear hJ hrows heq hres hH hn1
      go_wp2_with fail
      go_ret2
      rw [HRes.out]
      exact ⟨A1, cap1, by rw [← HN1.out]; rfl, by rw [← HN1.out]; exact HRows.out, by rw [← HN1.out]; exact hfits, (show s.1.length ≤ 900000 by omega), HB9.out⟩
end Go.Proofs.Ytpggomekbahddaa
