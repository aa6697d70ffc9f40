/- Logs that were opened; records that are written out. The law's example: a record of 107 bytes. -/
import Derived.Test.YtpggomekbahddaaWlAdd
import Derived.Test.YtpggomekbahddaaWlLight
import Derived.Test.YtpggomekbahddaaFgJoin
namespace Go.Proofs.Ytpggomekbahddaa
open Go.RowKit Fi Fr
set_option linter.unusedVariables false
theorem at_of_open {w0 w v : World} {d n kind E c : Nat} {e : Int} {lab : Nat → Tag} {st : Dk.St} {Ps : List (List Nat)} {r : List (List Nat) × Nat} {x : Ending} (hd : Ds w0 w d lab st []) (hg : Wl.Lg st n kind E Ps) (hlow : st.low c) (h1 : 1 ≤ n) (hr2 : r.2 = Ps.length) (h : GivesLog w n kind d e (E : Int) r x v) :
    ∃ (lb : Nat) (ad : Addr) (cp : Nat) (R : Option Addr) (rc : Nat), x = .returned (.tuple #[.pointer (some ⟨lb, 0, none⟩), .slice R r.1.length rc, .int .i64 0]) ∧ At w0 v d lb ad n cp kind E e Ps r.1.length c lab st [] ∧ RdB v R r.1.length r.1 ∧ r.1.length ≤ rc := by
  obtain ⟨hb, lb, A, cp, R, rc, rfl, hlb, hbx, hA, hnw, hR, hrc, _⟩ := h
  obtain ⟨b, o, rfl, hbv, _⟩ := hA.2 (by omega)
  obtain ⟨h2, h3⟩ := hnw b o rfl
  have hds := hd.next hb
  rw [hr2] at hbx
  refine ⟨lb, ⟨b, o, none⟩, cp, R, rc, rfl, ⟨⟨hds.below, hds.disk, hds.labs, fun u hu => ?_⟩, hbx, hA, hg, hlow, h3, Nat.le_trans hd.below.size hlb⟩, hR.rd, hrc⟩
  rcases List.mem_cons.1 hu with rfl | hu
  · exact ⟨hd.disk.new_ hlb, hbx.1⟩
  · rcases List.mem_cons.1 hu with rfl | hu
    · exact ⟨hd.disk.new_ h2, hbv⟩
    · cases hu
/-- Two records. -/
theorem rdb_two (w : World) (B C : Option Addr) (c d : Nat) (l m : List Nat) (hl : Rd w B l.length l) (hm : Rd w C m.length m) (hc : l.length ≤ c) (hd : m.length ≤ d) (hl2 : l.length ≤ 1000000) (hm2 : m.length ≤ 1000000) : RdB (w.alloc (.cells #[.slice B l.length c, .slice C m.length d] 23)) (some ⟨w.heap.size, 0, none⟩) 2 [l, m] := by
  have hb : Below w.heap.size w (w.alloc (.cells #[.slice B l.length c, .slice C m.length d] 23)) := (Below.refl _ _).alloc (Nat.le_refl _) _
  have h := Holds.new w #[.slice B l.length c, .slice C m.length d] 23
  refine ⟨[.slice B l.length c, .slice C m.length d], ⟨rfl, fun _ => ⟨_, 0, rfl, by simp, fun j v hv => by rw [Nat.zero_add]; exact h.at_ j hv⟩⟩, rfl, fun j v k h1 h2 => ?_⟩
  match j, h1, h2 with
  | 0, h1, h2 => injection h1 with h1; injection h2 with h2; subst h1 h2; exact ⟨B, c, rfl, hl.below hb, hc, by omega, fun _ _ _ _ => trivial⟩
  | 1, h1, h2 => injection h1 with h1; injection h2 with h2; subst h1 h2; exact ⟨C, d, rfl, hm.below hb, hd, by omega, fun _ _ _ _ => trivial⟩
  | j + 2, h1, _ => simp at h1
namespace Wl
def exA : List (List Nat) := [[97], [98]]
def exB : List (List Nat) := [List.replicate 200 0]
theorem exA_cut : (Fg.cut exA).length = 1 := by decide +kernel
set_option maxRecDepth 10000 in
theorem exB_cut : (Fg.cut exB).length = 2 := by decide +kernel
theorem exA_le : ∀ r ∈ exA, r.length ≤ 8192 := by decide +kernel
set_option maxRecDepth 10000 in
theorem exB_le : ∀ r ∈ exB, r.length ≤ 8192 := by decide +kernel
set_option maxRecDepth 10000 in
theorem ex_pall : Fg.pall (Fg.cut exA ++ Fg.cut exB) ([], none) = some (exA ++ exB, none) := by
  rw [Fg.pall_append, Fg.pall_cut exA_le]
  show Fg.pall (Fg.cut exB) _ = _
  rw [Fg.pall_cut exB_le, if_neg (show ¬ exB = [] from List.cons_ne_nil _ _)]
  rfl
set_option maxRecDepth 10000 in
theorem ex_join : Fg.joinL (Fg.cut exA ++ Fg.cut exB) ([], none) = ([[97], [98], List.replicate 200 0], 3) := by
  rw [Fg.joinL_all ex_pall, List.length_append, exA_cut, exB_cut]
  rfl
set_option maxRecDepth 10000 in
theorem ex_fits : fits 1 3 [700] = false ∧ fits 1 3 [3, 4] = true := by decide +kernel
end Wl
end Go.Proofs.Ytpggomekbahddaa
namespace Go.Proofs.Ytpggomekbahddaa
open Go.RowKit
set_option linter.unusedVariables false
theorem ex_cut : ∃ p0 p1 r0 : List Nat, Fg.cutOut [List.replicate 107 0] = ([p0, p1], 0) ∧ p0.length = 108 ∧ p1.length = 3 ∧ Fg.joinL [p0, p1] ([], none) = ([r0], 2) ∧ r0.length = 107 :=
  ⟨2 :: 106 :: List.replicate 106 0, [4, 1, 0], List.replicate 107 0, by decide +kernel, by decide +kernel, by decide +kernel, by decide +kernel, by decide +kernel⟩
/-- One element, by its place. -/
theorem RdB.nth {w : World} {A : Option Addr} {n : Nat} {L : List (List Nat)} (h : RdB w A n L) {j : Nat} {l : List Nat} (hl : L[j]? = some l) : ∃ (b o : Nat) (B : Option Addr) (c : Nat), A = some ⟨b, o, none⟩ ∧ b < w.heap.size ∧ w.cell? ⟨b, o + j, none⟩ = some (.slice B l.length c) ∧ Rd w B l.length l ∧ l.length ≤ c := by
  have hj : j < n := by rw [← h.len]; exact (List.getElem?_eq_some_iff.1 hl).1
  obtain ⟨b, o, B, c, l', hA, hb, hl', hc, hr, hcc, _⟩ := h.at_ hj
  rw [hl] at hl'
  injection hl' with hl'
  subst hl'
  exact ⟨b, o, B, c, hA, hb, hc, hr, hcc⟩
theorem rdb_one (w : World) (B : Option Addr) (c : Nat) (l : List Nat) (hr : Rd w B l.length l) (hc : l.length ≤ c) (hm : l.length ≤ 9223372036854775807) : RdB (w.alloc (.cells #[.slice B l.length c] 23)) (some ⟨w.heap.size, 0, none⟩) 1 [l] := by
  refine ⟨[.slice B l.length c], rdv_one _ _ _, ?_⟩
  have h0 : Items (w.alloc (.cells #[.slice B l.length c] 23)) (fun _ => True) ([] ++ [.slice B l.length c]) ([] ++ [l]) := (Items.nil _ _).snoc ⟨B, c, rfl, hr.alloc _, hc, hm, fun _ _ _ _ => trivial⟩
  exact h0
end Go.Proofs.Ytpggomekbahddaa
