/- Package block's reader: what stands from its place on. -/
import Derived.Test.YtbfjcpblbmlfcaaBkTwo
import Derived.Test.YtbfjcpblbmlfcaaWrTexts
import Derived.BigQuiet
import Derived.Deep.DeepCutAuto
namespace Go.Proofs.Ytbfjcpblbmlfcaa
open Go.RowKit
/-- A reader: its bytes, its place. -/
abbrev rdr (A : Option Addr) (n c p : Nat) : List Value := [.slice A n c, .int .i64 (p : Int)]
/-- So many of the bytes from a place on. -/
def GivesWin (w : World) (x : List Nat) (e : Ending) (w' : World) : Prop := ∃ B k, e = .returned (.slice B x.length k) ∧ x.length ≤ k ∧ Rd w B x.length x ∧ Below w.heap.size w w'
set_option maxRecDepth 100000 in
set_option maxHeartbeats 8000000 in
theorem ahead_any (b : Nat) (A : Option Addr) (n c p most : Nat) (l : List Nat) (w : World) (hb : Holds w b (rdr A n c p)) (hl : Rd w A n l) (hc : n ≤ c) (hn : n ≤ 1000000) (hp : p ≤ n) (hm : most ≤ 1000000) :
    Calls Try.prog 45 #[.pointer (some ⟨b, 0, none⟩), .int .i64 (most : Int)] w (GivesWin w ((l.drop p).take most)) := by
  have hcut := cut_rd hl hp hc
  have hcl : ∀ v, Below w.heap.size w v → v.cell? ⟨b, 0, none⟩ = some (.slice A n c) ∧ v.cell? ⟨b, 1, none⟩ = some (.int .i64 (p : Int)) := fun v hv => ⟨(hb.below hv).at_ 0 rfl, (hb.below hv).at_ 1 rfl⟩
  have HCl := Lib.hid hcl
  have HBd0 := Lib.hid ((Below.refl w.heap.size w).drew)
  have hlen : l.length = n := hl.1
  have Hlen := Lib.hid hlen
  clear hb hcl hl hlen
  have hpi : (p : Int) ≤ (n : Int) := by omega
  have hci : (n : Int) ≤ (c : Int) := by omega
  by_cases hmin : n ≤ p + most
  · have hmi : (n : Int) ≤ (p : Int) + (most : Int) := by omega
    rw [show (l.drop p).take most = l.drop p from List.take_of_length_le (by rw [List.length_drop, Hlen.out]; omega)]
    have hx : (l.drop p).length = n - p := by rw [List.length_drop, Hlen.out]
    have Hx := Lib.hid hx
    clear hx
    by_cases hcp : c = p
    · rw [if_pos hcp] at hcut
      have Hcut := Lib.hid hcut
      clear hcut
      go_enter Try.func45, Try.ntmps45
      go_wp2_with fail
      refine region_class (fun w' => Below w.heap.size w w') (by kernel_rfl) (by kernel_rfl) HBd0.out ?_
      repeat (go_big_quiet_step ((first | (intro _; with_reducible rfl) | (intro hq; obtain ⟨e0, e1⟩ := HCl.out _ hq; simp [e0, e1, Result.andThen]; with_reducible rfl))))
      refine wpQuiet_nil ?_
      intro v9 hv9
      have HQ := Lib.hid hv9
      go_wp2
      go_ret
      refine ⟨A, 0, ?_, ?_, ?_, HQ.out⟩
      · rw [Hx.out]; rfl
      · rw [Hx.out]; omega
      · rw [Hx.out]; exact Hcut.out
    · rw [if_neg hcp] at hcut
      have Hcut := Lib.hid hcut
      clear hcut
      go_enter Try.func45, Try.ntmps45
      go_wp2_with fail
      refine region_class (fun w' => Below w.heap.size w w') (by kernel_rfl) (by kernel_rfl) HBd0.out ?_
      repeat (go_big_quiet_step ((first | (intro _; with_reducible rfl) | (intro hq; obtain ⟨e0, e1⟩ := HCl.out _ hq; simp [e0, e1, Result.andThen]; with_reducible rfl))))
      refine wpQuiet_nil ?_
      intro v9 hv9
      have HQ := Lib.hid hv9
      go_wp2
      go_ret
      refine ⟨A.map fun x => x.add p, c - p, ?_, ?_, ?_, HQ.out⟩
      · rw [Hx.out]; rfl
      · rw [Hx.out]; omega
      · rw [Hx.out]; exact Hcut.out
  · have hmi : ¬ (n : Int) ≤ (p : Int) + (most : Int) := by omega
    have hmj : (p : Int) + (most : Int) ≤ (c : Int) := by omega
    have hx : ((l.drop p).take most).length = most := by rw [List.length_take, List.length_drop, Hlen.out]; omega
    have Hx := Lib.hid hx
    clear hx
    have hcp : ¬ c = p := by omega
    rw [if_neg hcp] at hcut
    have hcut2 := hcut.take (k := most) (by omega)
    have Hcut := Lib.hid hcut2
    clear hcut hcut2
    have hpm : p + most - p = most := by omega
    go_enter Try.func45, Try.ntmps45
    go_wp2_with fail
    refine region_class (fun w' => Below w.heap.size w w') (by kernel_rfl) (by kernel_rfl) HBd0.out ?_
    repeat (go_big_quiet_step ((first | (intro _; with_reducible rfl) | (intro hq; obtain ⟨e0, e1⟩ := HCl.out _ hq; simp [e0, e1, Result.andThen]; with_reducible rfl))))
    refine wpQuiet_nil ?_
    intro v9 hv9
    have HQ := Lib.hid hv9
    go_wp2
    go_ret
    refine ⟨A.map fun x => x.add p, c - p, ?_, ?_, ?_, HQ.out⟩
    · rw [Hx.out]; exact ret_slice2 hpm
    · rw [Hx.out]; omega
    · rw [Hx.out]; exact Hcut.out
end Go.Proofs.Ytbfjcpblbmlfcaa
