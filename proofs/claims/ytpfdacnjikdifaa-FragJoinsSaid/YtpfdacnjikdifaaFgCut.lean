/- What frag's Cut returns. -/
import Derived.Test.YtpfdacnjikdifaaFgLayC
namespace Go.Proofs.Ytpfdacnjikdifaa
open Go.RowKit
set_option linter.unusedVariables false
/-- Byte slices and an error. -/
def GivesRows (w : World) (L : List (List Nat)) (r : Int) (x : Ending) (w' : World) : Prop :=
  ∃ (A : Option Addr) (c : Nat), x = .returned (.tuple #[.slice A L.length c, .int .i64 r]) ∧ RdB w' A L.length L ∧ L.length ≤ c ∧ Below w.heap.size w w'
namespace Fg
/-- Is there a record that is too long? -/
def long (L : List (List Nat)) : Bool := L.any fun r => decide (8192 < r.length)
theorem long_no {L : List (List Nat)} (h : long L = false) : ∀ r ∈ L, r.length ≤ 8192 := by
  intro r hr
  unfold long at h
  rw [List.any_eq_false] at h
  have := h r hr
  simp at this
  exact this
theorem long_yes {L : List (List Nat)} {r : List Nat} (hr : r ∈ L) (h : 8192 < r.length) : long L = true := by
  unfold long
  rw [List.any_eq_true]
  exact ⟨r, hr, by simpa using h⟩
/-- The document's words: payloads, or why none. -/
def cutOut (L : List (List Nat)) : List (List Nat) × Int := if 256 < L.length then ([], 3) else if long L then ([], 2) else (cut L, 0)
end Fg
theorem OwnI.rz {w : World} {base n cap : Nat} {A : Option Addr} {l : List Int} (h : OwnI w base A n cap l) : RdZ w A n l := h.rd
set_option maxRecDepth 100000 in
set_option maxHeartbeats 2000000 in
theorem cut_big (A : Option Addr) (n c : Nat) (L : List (List Nat)) (w : World) (hn : 256 < n) (hb : n ≤ 9223372036854775807) :
    Calls Try.prog 10 #[.slice A n c] w (GivesRows w [] 3) := by
  have hni : (256 : Int) < (n : Int) := by omega
  go_enter Try.func10, Try.ntmps10
  go_wp2
  go_ret2
  exact ⟨none, 0, rfl, ⟨[], RdV.nil _ _, Items.nil _ _⟩, Nat.le_refl _, (Below.refl _ _).alloc (Nat.le_refl _) _⟩
/-- What is known within Cut's first loop. -/
def Sizes (w : World) (A : Option Addr) (n c : Nat) (L : List (List Nat)) (k : Nat) (s : Value) (wr : World) : Prop :=
  ∃ (B : Option Addr) (d : Nat), s = .slice B k d ∧ OwnI wr (w.heap.size + 1) B k d (lens (L.take k)) ∧ Below (w.heap.size + 1) (w.alloc (.cells #[.slice A n c] 22)) wr ∧ ∀ r ∈ L.take k, r.length ≤ 8192
theorem lens_snoc {L : List (List Nat)} {k : Nat} {r : List Nat} (h : L[k]? = some r) : lens (L.take (k + 1)) = lens (L.take k) ++ [(r.length : Int)] := by
  unfold lens; rw [List.take_add_one, h]; simp
set_option maxRecDepth 100000 in
set_option maxHeartbeats 4000000 in
theorem cut_any (A : Option Addr) (n c : Nat) (L : List (List Nat)) (w : World) (hr : RdB w A n L) (hb : n ≤ 9223372036854775807) :
    Calls Try.prog 10 #[.slice A n c] w (GivesRows w (Fg.cutOut L).1 (Fg.cutOut L).2) := by
  have hl := hr.len
  by_cases hbig : 256 < n
  · have e : Fg.cutOut L = ([], 3) := by unfold Fg.cutOut; rw [if_pos (by omega)]
    rw [e]
    exact cut_big A n c L w hbig hb
  · have hni : ¬ (256 : Int) < (n : Int) := by omega
    have hB0 : Below w.heap.size w (w.alloc (.cells #[.slice A n c] 22)) := (Below.refl _ _).alloc (Nat.le_refl _) _
    have k0 := Holds.new w #[.slice A n c] 22
    have HB0 := Lib.hid hB0
    have K0 := Lib.hid k0
    have HR := Lib.hid hr
    have HL := Lib.hid hl
    clear hr hl hB0
    have c0 := k0.at_ 0 rfl
    clear k0
    go_enter Try.func10, Try.ntmps10
    go_wp2
    clear c0
    go_loopw [4, 13] (fun s ii wr => ∃ k : Nat, k ≤ n ∧ ii = .int .i64 (k : Int) ∧ Sizes w A n c L k s wr) (fun _ ii _ => n - (intOf ii).toNat)
    case atStart => exact ⟨0, Nat.zero_le _, rfl, none, 0, rfl, by exact ⟨rfl, World.ownsRow_nil _ _ _ _⟩, Below.refl _ _, by simp⟩
    case round =>
      obtain ⟨k, hk, rfl, B, d, rfl, hO, hBl, hle⟩ := hrel
      have hs1 : w.heap.size + 1 ≤ wr.heap.size := by have := hBl.size; simpa using this
      have hBw : Below w.heap.size w wr := HB0.out.trans (hBl.mono (by omega))
      by_cases hkn : k < n
      · obtain ⟨b, o, RB, c2, r, rfl, hb1, hrk, hcell, hrd, hrc, hrm⟩ := (HR.out.below hBw).at_ hkn
        have hki : (k : Int) < (n : Int) := by omega
        by_cases hlong : 8192 < r.length
        · have e : Fg.cutOut L = ([], 2) := by unfold Fg.cutOut; rw [if_neg (by rw [HL.out]; exact hbig), if_pos (Fg.long_yes (List.mem_of_getElem? hrk) hlong)]
          have HE := Lib.hid e
          have hlo : (8192 : Int) < (r.length : Int) := by omega
          have HBw := Lib.hid hBw
          clear e hrk hrd hO hBl hBw hle
          go_wp2
          go_ret2
          rw [HE.out]
          exact ⟨none, 0, rfl, ⟨[], RdV.nil _ _, Items.nil _ _⟩, Nat.le_refl _, HBw.out⟩
        · have hlo : ¬ (8192 : Int) < (r.length : Int) := by omega
          have hOa := hO.alloc (.cells #[.int .i64 (r.length : Int)] 3)
          have hca := (Holds.new wr #[.int .i64 (r.length : Int)] 3).at_ 0 rfl
          have hba : w.heap.size + 1 ≤ (wr.alloc (.cells #[.int .i64 (r.length : Int)] 3)).heap.size := by simp; omega
          have hbb := hBl.alloc hs1 (.cells #[.int .i64 (r.length : Int)] 3)
          have hblk := hO.blk
          have hle9 : k + 1 ≤ 1000000 := by omega
          have hsn := lens_snoc hrk
          have hle2 : ∀ x ∈ L.take (k + 1), x.length ≤ 8192 := by
            rw [List.take_add_one, hrk]
            intro x hx
            rcases List.mem_append.1 hx with h1 | h1
            · exact hle x h1
            · simp at h1; subst h1; omega
          have HSn := Lib.hid hsn
          have HLe2 := Lib.hid hle2
          have HBb := Lib.hid hbb
          have HBlk := Lib.hid hblk
          have HCa := Lib.hid hca
          clear hrk hrd hO hBl hBw hle hsn hle2 hbb hblk hca
          go_wp2_with (first | (at_builtin; refine wpList_appI rfl (.tmp 20) (.tmp 23) rfl rfl hOa ⟨wr.heap.size, 0, none⟩ (r.length : Int) 1 rfl HCa.out hle9 hba ?_; intro A3 c3 v3 hO3 hg3))
          have hB3 := HBb.out.grown hg3 hba (fun g h => (HBlk.out g h).1)
          rw [← HSn.out] at hO3
          clear hg3
          go_roundw
          case rel => exact ⟨k + 1, by omega, by go_num, A3, c3, rfl, hO3, hB3, HLe2.out⟩
          case measure => simp [intOf]; omega
      · have hkn2 : k = n := by omega
        subst hkn2
        rw [List.take_of_length_le (Nat.le_of_eq HL.out)] at hO hle
        have hqc : wr.cell? ⟨w.heap.size, 0, none⟩ = some (.slice A k c) := (hBl.cell (p := ⟨w.heap.size, 0, none⟩) (by show w.heap.size < w.heap.size + 1; omega)).trans (K0.out.at_ 0 rfl)
        have e : Fg.cutOut L = (Fg.cut L, 0) := by
          unfold Fg.cutOut
          rw [if_neg (by rw [HL.out]; exact hbig)]
          cases h : Fg.long L with
          | false => rfl
          | true =>
            unfold Fg.long at h
            rw [List.any_eq_true] at h
            obtain ⟨x, hx, h8⟩ := h
            have := hle x hx
            simp at h8; omega
        have hwk := walk_cut wr.heap.size w.heap.size L (PaysAt wr wr.heap.size) (lays_cut L wr wr.heap.size w.heap.size rfl (by omega) A k c hqc (HR.out.below hBw)) B d (fun b st v hv => by
          have h2 := hO.rz.below (show Below wr.heap.size wr v from hv.below)
          rw [HL.out]; exact h2) (by rw [HL.out]; omega) hle (wr.alloc (.cells #[.slice none 0 0] 22)) (.inl ⟨rfl, rfl, (Below.refl _ _).alloc (Nat.le_refl _) _, by simp, Holds.new wr #[.slice none 0 0] 22⟩)
        rw [HL.out] at hwk
        have HE := Lib.hid e
        have HWk := Lib.hid hwk
        have HBw := Lib.hid hBw
        have hmf : ∀ (fn : Fn) (first cap : Array Value) (w : World), (Instr.makeFunc fn first cap).run Try.prog w = .ok (.func fn first cap) w := fun _ _ _ _ => rfl
        clear e hwk hBw hqc hO hBl hle hkn hk
        go_wp2_with fail
        refine HWk.out.mono ?_
        rintro e9 v9 ⟨rfl, hP9⟩
        have hbel := hP9.below
        have HBel := Lib.hid hbel
        rcases hP9 with ⟨hb9, he, _, hsz, hv⟩ | ⟨hb9, A9, n9, cap9, vs, B9, c9, hMid⟩
        · have hL0 : L = [] := by simpa using hb9
          have HL0 := Lib.hid hL0
          have c0 := hv.at_ 0 rfl
          clear hb9 he hL0 hbel hv
          go_wp2_with fail
          go_ret2
          rw [HE.out]
          have e2 : Fg.cut L = [] := by unfold Fg.cut; rw [if_pos HL0.out]
          rw [e2]
          exact ⟨none, 0, rfl, ⟨[], RdV.nil _ _, Items.nil _ _⟩, Nat.le_refl _, HBw.out.trans (HBel.out.mono HBw.out.size)⟩
        · have c0 := hMid.var.at_ 0 rfl
          have hit := hMid.shut
          have hrow := hMid.row
          have hcu : Fg.cut L = (Fg.cutAll L ([], [])).1 ++ [(Fg.cutAll L ([], [])).2] := by
            unfold Fg.cut
            rw [if_neg (by simpa using hb9)]; rfl
          have HIt := Lib.hid hit
          have HRow := Lib.hid hrow
          have HCu := Lib.hid hcu
          clear hb9 hbel hit hrow hMid hcu
          go_wp2_with fail
          go_ret2
          rw [HE.out]
          show GivesRows w (Fg.cut L) 0 _ _
          have hlen : (Fg.cut L).length = n9 := by rw [HCu.out, ← HIt.out.1]; exact HRow.out.1
          refine ⟨A9, cap9, by rw [hlen]; rfl, ⟨_, by rw [hlen]; exact HRow.out.rd, by rw [HCu.out]; exact HIt.out.imp fun _ _ _ => trivial⟩, by rw [hlen]; exact HRow.out.fits, HBw.out.trans (HBel.out.mono HBw.out.size)⟩
end Go.Proofs.Ytpfdacnjikdifaa
